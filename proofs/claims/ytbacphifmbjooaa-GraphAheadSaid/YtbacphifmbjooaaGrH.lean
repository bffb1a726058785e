/- GraphAhead where there are not too many numbers. -/
import Derived.Test.YtbacphifmbjooaaGrF
namespace Go.Proofs.Ytbacphifmbjooaa
open Go.ChangeShapes Go.WideShapes Go.ChangeAt Go.RowKit

theorem nodup_inj {l : List Nat} (h : l.Nodup) {i j : Nat} (hi : i < l.length) (hj : j < l.length) (e : l[i] = l[j]) : i = j := by
  have hp := List.pairwise_iff_getElem.1 h
  rcases Nat.lt_trichotomy i j with h1 | h1 | h1
  · exact absurd e (hp i j hi hj h1)
  · exact h1
  · exact absurd e.symm (hp j i hj hi h1)
/-- The places of the first i of Q are written down. -/
def Pos (Q : List Nat) (i : Nat) (P : Nat → Int) : Prop := (∀ p q, p < i → Q[p]? = some q → P q = (p : Int) + 1) ∧ ∀ q, q ∉ Q.take i → P q = 0
theorem Pos.step {Q : List Nat} {i q : Nat} {P : Nat → Int} (h : Pos Q i P) (hnd : Q.Nodup) (hq : Q[i]? = some q) : P q = 0 ∧ Pos Q (i + 1) (fun j => if j = q then (i : Int) + 1 else P j) := by
  obtain ⟨hi, rfl⟩ := List.getElem?_eq_some_iff.1 hq
  have hn : ∀ p, p < Q.length → Q[p]? = some Q[i] → p = i := fun p hp e => by
    obtain ⟨_, e⟩ := List.getElem?_eq_some_iff.1 e
    exact nodup_inj hnd _ _ e
  refine ⟨h.2 _ fun hm => ?_, fun p q hp e => ?_, fun q hm => ?_⟩
  · obtain ⟨p, hp, e⟩ := List.getElem_of_mem hm
    rw [List.length_take] at hp
    rw [List.getElem_take] at e
    have := hn p (by omega) (by rw [List.getElem?_eq_getElem (by omega), e])
    omega
  · dsimp only
    by_cases e2 : q = Q[i]
    · rw [if_pos e2]
      subst e2
      rw [hn p (List.getElem?_eq_some_iff.1 e).1 e]
    · rw [if_neg e2]
      refine h.1 p q ?_ e
      rcases Nat.lt_succ_iff_lt_or_eq.1 hp with h1 | h1
      · exact h1
      · subst h1; rw [List.getElem?_eq_getElem hi] at e; injection e with e; exact absurd e.symm e2
  · rw [List.take_succ_eq_append_getElem hi, List.mem_append, List.mem_singleton] at hm
    dsimp only
    rw [if_neg (fun e => hm (.inr e))]
    exact h.2 q fun hq => hm (.inl hq)
theorem Pos.zero (Q : List Nat) : Pos Q 0 (fun _ => 0) := ⟨fun p q h => by omega, fun _ _ => rfl⟩
/-- What the order and those left over are to each other. -/
structure Ahd (n : Nat) (L : List (List Int)) (b : Bool) (Q R : List Nat) (D : Nat → Bool) : Prop where
  yes : b = true → R = [] ∧ Q.length = n
  no : b = false → Q = [] ∧ 0 < R.length
  rl : R.length ≤ n
  nd : Q.Nodup
  lt : ∀ q ∈ Q, q < n
  left : ∀ j, j ∈ R ↔ j < n ∧ D j = false
  held : ∀ i, i < n → (D i = false ↔ ∃ x ∈ rowL L i, inn n x = true ∧ D x.toNat = false)
  ahead : b = true → ∀ i, i < n → ∀ x ∈ rowL L i, inn n x = true → ∀ P, Pos Q Q.length P → P x.toNat < P i
theorem ahd (n : Nat) (L : List (List Int)) (hn : n ≤ 4096) : ∃ b Q R D, ordI (n : Int) L = iz Q ∧ ordIB (n : Int) L = b ∧ stuckI (n : Int) L = iz R ∧ Ahd n L b Q R D := by
  have hm : mayB (n : Int) = true := decide_eq_true (by omega)
  obtain ⟨hi, hc⟩ := toldT_inv n L
  have hlen := hi.len
  have hl := those_len (toldT n L).2 n
  have h1 : ordI (n : Int) L = ordZ n L := by unfold ordI; rw [hm]; rfl
  have h2 : ordIB (n : Int) L = ordB n L := by unfold ordIB; rw [hm]; rfl
  have h3 : stuckI (n : Int) L = stuckZ n L := by unfold stuckI; rw [hm]; rfl
  rw [h1, h2, h3]
  unfold ordZ ordB stuckZ
  have hheld : ∀ i, i < n → ((toldT n L).2 i = false ↔ ∃ x ∈ rowL L i, inn n x = true ∧ (toldT n L).2 x.toNat = false) := fun i hin => by
    constructor
    · intro hd
      have h4 := hc i hin
      have hf : freeB n (rowL L i) (toldT n L).2 = false := by
        cases hf : freeB n (rowL L i) (toldT n L).2 with
        | false => rfl
        | true => rw [can_yes hd hf] at h4; cases h4
      unfold freeB at hf
      obtain ⟨x, hx, hxf⟩ := List.all_eq_false.1 hf
      cases hin2 : inn n x with
      | false => rw [hin2] at hxf; simp at hxf
      | true => rw [hin2] at hxf; exact ⟨x, hx, hin2, by simpa using hxf⟩
    · rintro ⟨x, hx, hix, hdx⟩
      cases hd : (toldT n L).2 i with
      | false => rfl
      | true =>
        obtain ⟨p, hp, e⟩ := List.getElem_of_mem ((hi.done i).1 hd)
        have := hi.ahead p i (by rw [List.getElem?_eq_getElem hp, e]) x hx hix
        rw [(hi.done _).2 (List.mem_of_mem_take this)] at hdx
        cases hdx
  have hleft : ∀ j, j ∈ those n (toldT n L).2 false ↔ j < n ∧ (toldT n L).2 j = false := fun j => mem_those
  by_cases hlt : (toldT n L).1.length < n
  · rw [if_pos hlt, decide_eq_true hlt]
    exact ⟨false, [], _, (toldT n L).2, rfl, rfl, rfl, (fun h => by cases h), fun _ => ⟨rfl, by omega⟩, those_le _ _ _, List.nodup_nil, (fun q h => by cases h), hleft, hheld, (fun h => by cases h)⟩
  · rw [if_neg hlt, decide_eq_false hlt]
    refine ⟨true, (toldT n L).1, _, (toldT n L).2, rfl, rfl, rfl, fun _ => ⟨List.eq_nil_of_length_eq_zero (by omega), by omega⟩, (fun h => by cases h), those_le _ _ _, hi.nd, hi.lt, hleft, hheld, fun _ i hin x hx hix P hP => ?_⟩
    have hd : (toldT n L).2 i = true := (cnt_all n).1 (by omega) i hin
    obtain ⟨p, hp, e⟩ := List.getElem_of_mem ((hi.done i).1 hd)
    have ep : (toldT n L).1[p]? = some i := by rw [List.getElem?_eq_getElem hp, e]
    obtain ⟨r, hr, er⟩ := List.getElem_of_mem (hi.ahead p i ep x hx hix)
    rw [List.length_take] at hr
    rw [List.getElem_take] at er
    rw [hP.1 p i hp ep, hP.1 r x.toNat (by omega) (by rw [List.getElem?_eq_getElem (by omega), er])]
    omega
theorem iz_at {Q : List Nat} {i : Nat} (h : i < Q.length) : (iz Q)[i]'(by rw [iz_len]; exact h) = (Q[i] : Int) := by unfold iz; rw [List.getElem_map]
set_option maxHeartbeats 8000000 in
set_option maxRecDepth 100000 in
theorem graphahead_go (v : Int) (n : Nat) (A : Option Addr) (L : List (List Int)) (c : Nat) (w : World) (hp : Calls Try.prog 19 #[.int .i64 v, .int .i64 40] w fun e w' => e = .returned (.int .i64 (n : Int)) ∧ w = w') (hn : n < 40) (hf : fewB (n : Int) L = true) (hl : L.length ≤ 5864062014805) (hL : LL w A L) :
    Calls Try.prog 5 #[.int .i64 v, .slice A L.length c] w fun e w' => e = .returned (.bool true) ∧ Below w.heap.size w w' := by
  have cf := few_any (n : Int) A L c w hL
  rw [hf] at cf
  have cl := fun (w1 : World) (h : LL w1 A L) => lists_any A L c w1 h hl
  have co := fun (w1 : World) A1 c1 (h : LL w1 A1 L) => order_any (n : Int) A1 L c1 w1 h
  have cs := fun (w1 : World) A1 c1 (h : LL w1 A1 L) => stuck_any (n : Int) A1 L c1 w1 h
  obtain ⟨b, Q, R, D, e1, e2, e3, hA⟩ := ahd n L (by omega)
  rw [e1, e2] at co
  rw [e3] at cs
  have hQl : Q.length ≤ n := by
    cases b with
    | true => exact Nat.le_of_eq (hA.yes rfl).2
    | false => rw [(hA.no rfl).1]; exact Nat.zero_le _
  have hRl := hA.rl
  have HL := Lib.hid hL
  have HA := Lib.hid hA
  have ca := awake_any
  have hmk := mk_ints n (by omega)
  have hmk2 := mk_bools n (by omega)
  clear hL hf e1 e2 e3
  cases b with
  | true =>
    have hqz : ((Q.length : Int) != (n : Int)) = false := by rw [(hA.yes rfl).2]; simp
    have hrz : ((R.length : Int) == 0) = true := by rw [(hA.yes rfl).1]; rfl
    clear hA
    go_enter Try.func5, Try.ntmps5
    go_wp2_with fail
    (with_reducible refine hp.mono ?_)
    rintro e w0 ⟨rfl, rfl⟩
    clear hp
    go_wp2_with fail
    (with_reducible refine cf.mono ?_)
    rintro e w0 ⟨rfl, rfl⟩
    clear cf
    go_wp2_with fail
    (with_reducible refine (cl w0 HL.out).mono ?_)
    rintro e w1 ⟨A1, c1, rfl, -, -, hL1, hb1⟩
    have HB1 := Lib.hid hb1
    have co' := co w1 A1 c1 hL1
    clear hL1 hb1 co
    go_wp2_with fail
    (with_reducible refine co'.mono ?_)
    rintro e w2 ⟨A5, c5, rfl, hzl, h5, hb2⟩
    have H5 := Lib.hid h5
    have HB2 := Lib.hid (HB1.out.trans (hb2.mono HB1.out.size))
    have cl' := cl w2 (HL.out.below HB2.out)
    clear co' h5 hb2 cl
    go_wp2_with fail
    (with_reducible refine cl'.mono ?_)
    rintro e w3 ⟨A3, c3, rfl, -, -, hL3, hb3⟩
    have HB3 := Lib.hid (HB2.out.trans (hb3.mono HB2.out.size))
    have H53 := Lib.hid (H5.out.below hb3)
    have cs' := cs w3 A3 c3 hL3
    clear cl' hL3 hb3 cs H5
    go_wp2_with fail
    (with_reducible refine cs'.mono ?_)
    rintro e W0 ⟨A7, c7, rfl, -, -, h7, hb4⟩
    have HB4 := Lib.hid (HB3.out.trans (hb4.mono HB3.out.size))
    have H54 := Lib.hid (H53.out.below hb4)
    have H7 := Lib.hid h7
    have HL4 := Lib.hid (HL.out.below HB4.out)
    clear cs' h7 hb4 H53
    rw [iz_len] at hzl ⊢
    rw [iz_len]
    have hP0 : Hid (∃ P, (W0.alloc (.cells (madeCells #[.int .i64 0] n) 3)).rowIs W0.heap.size 3 n (fun j => .int .i64 (P j)) ∧ Pos Q 0 P) := Lib.hid ⟨fun _ => 0, World.rowIs_made W0 _ n _, Pos.zero Q⟩
    go_wp2_with fail
    go_loopg [9] (Q.length) (fun m s9 wr => ∃ i : Nat, i + m = Q.length ∧ s9 = .int .i64 (i : Int) ∧ Hid (Below W0.heap.size W0 wr) ∧ Hid (∃ P, wr.rowIs W0.heap.size 3 n (fun j => .int .i64 (P j)) ∧ Pos Q i P))
    case atStart => exact ⟨0, by omega, rfl, Lib.hid (below_alloc _ _), hP0⟩
    case round =>
      obtain ⟨i, him, rfl, HW, HP⟩ := hrel
      clear hP0
      have HIM := Lib.hid him
      by_cases hi : i < Q.length
      · have hiz : (i : Int) < (Q.length : Int) := by omega
        obtain ⟨b5, o5, rfl, hc⟩ := is_at (H54.out.below HW.out) (k := i) (by rw [iz_len]; exact hi)
        rw [iz_at hi] at hc
        have hqm := List.getElem_mem hi
        have hqs : Q[i]? = some Q[i] := List.getElem?_eq_getElem hi
        generalize Q[i] = q at *
        have hq := HA.out.lt q hqm
        obtain ⟨P, hr, hP⟩ := HP.out
        obtain ⟨hp0, hP'⟩ := hP.step HA.out.nd hqs
        have hcq := hr.cell hq
        rw [hp0] at hcq
        have hfz := hr.frozen q
        have hq0 : ¬ (q : Int) < 0 := by omega
        have hqn : (q : Int) < (n : Int) := by omega
        have HR2 : Hid (∃ P, (wr.setCell ⟨W0.heap.size, q, none⟩ (.int .i64 ((i : Int) + 1))).rowIs W0.heap.size 3 n (fun j => .int .i64 (P j)) ∧ Pos Q (i + 1) P) := Lib.hid ⟨_, (hr.set q _).congr fun j _ => by split <;> rfl, hP'⟩
        have HW2 := Lib.hid (show Below W0.heap.size W0 (wr.setCell ⟨W0.heap.size, q, none⟩ (.int .i64 ((i : Int) + 1))) from HW.out.setCell (Nat.le_refl _) _)
        clear him hqm hqs hr hP hP' hp0
        go_wp2_with fail
        go_roundg (Q.length - (i + 1))
        case measure => have := HIM.out; omega
        case rel => exact ⟨i + 1, by have := HIM.out; omega, by go_num, HW2, HR2⟩
      · have hiz : ¬ (i : Int) < (Q.length : Int) := by omega
        obtain rfl : i = Q.length := by omega
        obtain ⟨P, hr, hP⟩ := HP.out
        have HR := Lib.hid hr
        have HPP := Lib.hid hP
        have H7w := Lib.hid (H7.out.below HW.out)
        have HLw := Lib.hid (HL4.out.below HW.out)
        have HBw := Lib.hid (HB4.out.trans (HW.out.mono HB4.out.size))
        obtain ⟨W1, hW1⟩ : ∃ W1, W1 = wr := ⟨_, rfl⟩
        subst hW1
        have hE0 : Hid (∃ E : Nat → Bool, (W1.alloc (.cells (madeCells #[.bool false] n) 4)).rowIs W1.heap.size 4 n (fun j => .bool (E j)) ∧ ∀ j, E j = true ↔ j ∈ R.take 0) := Lib.hid ⟨fun _ => false, World.rowIs_made W1 _ n _, fun j => by simp⟩
        clear him hr hP HP HIM H54 H7 HL4 HB4 HW
        go_wp2_with fail
        go_loopg [11] (R.length) (fun m s11 wx => ∃ i : Nat, i + m = R.length ∧ s11 = .int .i64 (i : Int) ∧ Hid (Below W1.heap.size W1 wx) ∧ Hid (∃ E : Nat → Bool, wx.rowIs W1.heap.size 4 n (fun j => .bool (E j)) ∧ ∀ j, E j = true ↔ j ∈ R.take i))
        case atStart => exact ⟨0, by omega, rfl, Lib.hid (below_alloc _ _), hE0⟩
        case round =>
          obtain ⟨i, him, rfl, HW, HE⟩ := hrel
          clear hE0
          have HIM := Lib.hid him
          by_cases hi : i < R.length
          · have hiz : (i : Int) < (R.length : Int) := by omega
            obtain ⟨b7, o7, rfl, hc⟩ := is_at (H7w.out.below HW.out) (k := i) (by rw [iz_len]; exact hi)
            rw [iz_at hi] at hc
            have hqm := List.getElem_mem hi
            have HTK := Lib.hid (List.take_succ_eq_append_getElem hi)
            generalize R[i] = q at *
            have hq := ((HA.out.left q).1 hqm).1
            obtain ⟨E, hr, hE⟩ := HE.out
            have hcq := hr.cell hq
            have hfz := hr.frozen q
            have hq0 : ¬ (q : Int) < 0 := by omega
            have hqn : (q : Int) < (n : Int) := by omega
            have HE2 : Hid (∃ E : Nat → Bool, (wr.setCell ⟨W1.heap.size, q, none⟩ (.bool true)).rowIs W1.heap.size 4 n (fun j => .bool (E j)) ∧ ∀ j, E j = true ↔ j ∈ R.take (i + 1)) := Lib.hid ⟨upd E q, (hr.set q _).congr fun j _ => (by unfold upd; split <;> rfl), fun j => by rw [upd_at, hE j, HTK.out, List.mem_append, List.mem_singleton]; exact Or.comm⟩
            have HW2 := Lib.hid (show Below W1.heap.size W1 (wr.setCell ⟨W1.heap.size, q, none⟩ (.bool true)) from HW.out.setCell (Nat.le_refl _) _)
            clear him hqm hr hE
            go_wp2_with fail
            go_roundg (R.length - (i + 1))
            case measure => have := HIM.out; omega
            case rel => exact ⟨i + 1, by have := HIM.out; omega, by go_num, HW2, HE2⟩
          · have hiz : ¬ (i : Int) < (R.length : Int) := by omega
            obtain rfl : i = R.length := by omega
            obtain ⟨E, hrE, hE⟩ := HE.out
            have HRE := Lib.hid hrE
            have HRP := Lib.hid (row_later HR.out HW.out)
            have HEE := Lib.hid (show ∀ j, j < n → (E j = true ↔ D j = false) from fun j hj => by rw [hE j, List.take_length, HA.out.left j]; exact ⟨fun h => h.2, fun h => ⟨hj, h⟩⟩)
            have HL2 := Lib.hid (HLw.out.below HW.out)
            have HB2 := Lib.hid (HBw.out.trans (HW.out.mono HBw.out.size))
            obtain ⟨W2, hW2⟩ : ∃ W2, W2 = wr := ⟨_, rfl⟩
            subst hW2
            clear him hrE hE HE HIM H7w HLw HBw HW HR
            go_wp2_with fail
            go_loopg [12] (n) (fun m s12 wy => ∃ i : Nat, i + m = n ∧ s12 = .int .i64 (i : Int) ∧ Hid (Below W2.heap.size W2 wy))
            case atStart => exact ⟨0, by omega, rfl, Lib.hid (Below.refl _ _)⟩
            case round =>
              obtain ⟨i, him, rfl, HW⟩ := hrel
              have HIM := Lib.hid him
              obtain ⟨G, hG⟩ : ∃ G, G = gk := ⟨_, rfl⟩
              subst hG
              by_cases hi : i < n
              · have hiz : (i : Int) < (n : Int) := by omega
                obtain ⟨l, hl0⟩ : ∃ l, l = rowL L i := ⟨_, rfl⟩
                have HL0 := Lib.hid hl0
                have hrow : l.length = 0 ∨ i < L.length := by
                  by_cases h : i < L.length
                  · exact .inr h
                  · exact .inl (by rw [hl0, rowL_out (by omega)]; rfl)
                have HROW := Lib.hid hrow
                obtain ⟨W3, hW3⟩ : ∃ W3, W3 = wr := ⟨_, rfl⟩
                subst hW3
                have HW3 := HW
                clear him hrow hl0
                go_wp2_with fail
                go_loopg [13, 14] (l.length) (fun m s13 s14 wz => ∃ (k : Nat) (H : Bool), k + m = l.length ∧ s14 = .int .i64 (k : Int) ∧ s13 = .bool H ∧ Hid (H = true ↔ ∃ x ∈ l.take k, inn n x = true ∧ D x.toNat = false) ∧ Hid (Below W2.heap.size W2 wz))
                case atStart => exact ⟨0, false, by omega, rfl, rfl, Lib.hid (by simp), HW⟩
                case round =>
                  clear HW HW3
                  obtain ⟨k, H, hkm, rfl, rfl, HH, HW⟩ := hrel
                  have HKM := Lib.hid hkm
                  have hcei := (row_later HRE.out HW.out).cell hi
                  by_cases hk : k < l.length
                  · have hiL : i < L.length := by rcases HROW.out with h | h; omega; exact h
                    have hiLz : (i : Int) < (L.length : Int) := by omega
                    obtain ⟨bl, ol, B, cl3, rfl, hcl, h1, h2, h3, -, -⟩ := (HL2.out.below HW.out).at hiL
                    rw [← HL0.out] at hcl h1 h2 h3
                    have hkz : (k : Int) < (l.length : Int) := by omega
                    obtain ⟨bx, ox, rfl, hcx⟩ := is_at h3 hk
                    have HXM := Lib.hid (show l[k] ∈ rowL L i by rw [← HL0.out]; exact List.getElem_mem hk)
                    have HTK := Lib.hid (List.take_succ_eq_append_getElem hk)
                    generalize l[k] = x at *
                    clear h3 hkm
                    by_cases hx0 : x < 0
                    · have HS : Hid (H = true ↔ ∃ x ∈ l.take (k + 1), inn n x = true ∧ D x.toNat = false) := Lib.hid (by
                        rw [HTK.out, HH.out]
                        constructor
                        · rintro ⟨y, hy, h⟩; exact ⟨y, List.mem_append_left _ hy, h⟩
                        · rintro ⟨y, hy, h, h'⟩
                          rcases List.mem_append.1 hy with hy | hy
                          · exact ⟨y, hy, h, h'⟩
                          · rw [List.mem_singleton.1 hy] at h; exact absurd (inn_iff.1 h).1 (by omega))
                      go_wp2_with fail
                      go_roundg (l.length - (k + 1))
                      case measure => have := HKM.out; omega
                      case rel => exact ⟨k + 1, H, by have := HKM.out; omega, by go_num, rfl, HS, HW⟩
                    by_cases hxn : x < (n : Int)
                    · obtain ⟨m, rfl⟩ : ∃ m : Nat, x = (m : Int) := ⟨x.toNat, by omega⟩
                      have hm : m < n := by omega
                      have hcm := (row_later HRE.out HW.out).cell hm
                      have hpm := (row_later HRP.out HW.out).cell hm
                      have hpi := (row_later HRP.out HW.out).cell hi
                      have hat : decide (P m ≥ P i) = false := decide_eq_false (by have := HA.out.ahead rfl i hi _ HXM.out (inn_nat hm) P HPP.out; simp only [Int.toNat_natCast] at this; omega)
                      have HME := Lib.hid (HEE.out m hm)
                      have HS : Hid ((H || E m) = true ↔ ∃ x ∈ l.take (k + 1), inn n x = true ∧ D x.toNat = false) := Lib.hid (by
                        rw [HTK.out, Bool.or_eq_true, HH.out, HME.out]
                        constructor
                        · rintro (⟨y, hy, h⟩ | h)
                          · exact ⟨y, List.mem_append_left _ hy, h⟩
                          · exact ⟨(m : Int), List.mem_append_right _ (List.mem_singleton.2 rfl), inn_nat hm, by simpa using h⟩
                        · rintro ⟨y, hy, h, h'⟩
                          rcases List.mem_append.1 hy with hy | hy
                          · exact .inl ⟨y, hy, h, h'⟩
                          · rw [List.mem_singleton.1 hy] at h'; exact .inr (by simpa using h'))
                      generalize P m = pm at *
                      generalize P i = pi at *
                      generalize hEm : E m = em at *
                      have HEM := Lib.hid hEm
                      clear hEm
                      go_wp2_with fail
                      go_quiet (fail)
                      have HWD := fun q => Lib.hid (below_drw HW.out q)
                      cases H with
                      | true =>
                        go_wp2_with fail
                        go_roundg (l.length - (k + 1))
                        case measure => have := HKM.out; omega
                        case rel => exact ⟨k + 1, true, by have := HKM.out; omega, by go_num, rfl, HS, HWD _⟩
                      | false =>
                        go_wp2_with fail
                        go_roundg (l.length - (k + 1))
                        case measure => have := HKM.out; omega
                        case rel => exact ⟨k + 1, em, by have := HKM.out; omega, by go_num, rfl, HS, HWD _⟩
                    · have HS : Hid (H = true ↔ ∃ x ∈ l.take (k + 1), inn n x = true ∧ D x.toNat = false) := Lib.hid (by
                        rw [HTK.out, HH.out]
                        constructor
                        · rintro ⟨y, hy, h⟩; exact ⟨y, List.mem_append_left _ hy, h⟩
                        · rintro ⟨y, hy, h, h'⟩
                          rcases List.mem_append.1 hy with hy | hy
                          · exact ⟨y, hy, h, h'⟩
                          · rw [List.mem_singleton.1 hy] at h; exact absurd (inn_iff.1 h).2 (by omega))
                      go_wp2_with fail
                      go_roundg (l.length - (k + 1))
                      case measure => have := HKM.out; omega
                      case rel => exact ⟨k + 1, H, by have := HKM.out; omega, by go_num, rfl, HS, HW⟩
                  · have hkz : ¬ (k : Int) < (l.length : Int) := by omega
                    have hEH : E i = H := by
                      have h1 := HEE.out i hi
                      have h2 := HH.out
                      rw [List.take_of_length_le (by omega)] at h2
                      have h3 := HA.out.held i hi
                      rw [← HL0.out] at h3
                      cases hE : E i with
                      | true => exact (h2.2 (h3.1 (h1.1 hE))).symm
                      | false =>
                        cases H with
                        | false => rfl
                        | true => have := h1.2 (h3.2 (h2.1 rfl)); rw [hE] at this; cases this
                    rw [hEH] at hcei
                    have hHH : (H != H) = false := by simp
                    clear hEH hkm
                    by_cases hiL : i < L.length
                    · have hiLz : (i : Int) < (L.length : Int) := by omega
                      obtain ⟨bl, ol, B, cl3, rfl, hcl, -⟩ := (HL2.out.below HW.out).at hiL
                      rw [← HL0.out] at hcl
                      go_wp2_with fail
                      go_roundg (n - (i + 1))
                      case measure => have := HIM.out; omega
                      case rel => exact ⟨i + 1, by have := HIM.out; omega, by go_num, HW⟩
                    · have hiLz : ¬ (i : Int) < (L.length : Int) := by omega
                      go_wp2_with fail
                      go_roundg (n - (i + 1))
                      case measure => have := HIM.out; omega
                      case rel => exact ⟨i + 1, by have := HIM.out; omega, by go_num, HW⟩
              · have hiz : ¬ (i : Int) < (n : Int) := by omega
                have caw := ca wr
                have HR := Lib.hid (HB2.out.trans (HW.out.mono HB2.out.size))
                clear him
                go_wp2_with fail
                (with_reducible refine caw.mono ?_)
                rintro e w9 ⟨rfl, hb9⟩
                have HR9 := Lib.hid (HR.out.trans (hb9.mono HR.out.size))
                clear hb9 caw
                go_wp2_with fail
                go_ret
                exact ⟨rfl, HR9.out⟩
  | false =>
    have hqz : ((Q.length : Int) != 0) = false := by rw [(hA.no rfl).1]; rfl
    have hrz : ((R.length : Int) == 0) = false := beq_eq_false_iff_ne.2 (by have := (hA.no rfl).2; omega)
    clear hA
    go_enter Try.func5, Try.ntmps5
    go_wp2_with fail
    (with_reducible refine hp.mono ?_)
    rintro e w0 ⟨rfl, rfl⟩
    clear hp
    go_wp2_with fail
    (with_reducible refine cf.mono ?_)
    rintro e w0 ⟨rfl, rfl⟩
    clear cf
    go_wp2_with fail
    (with_reducible refine (cl w0 HL.out).mono ?_)
    rintro e w1 ⟨A1, c1, rfl, -, -, hL1, hb1⟩
    have HB1 := Lib.hid hb1
    have co' := co w1 A1 c1 hL1
    clear hL1 hb1 co
    go_wp2_with fail
    (with_reducible refine co'.mono ?_)
    rintro e w2 ⟨A5, c5, rfl, hzl, h5, hb2⟩
    have H5 := Lib.hid h5
    have HB2 := Lib.hid (HB1.out.trans (hb2.mono HB1.out.size))
    have cl' := cl w2 (HL.out.below HB2.out)
    clear co' h5 hb2 cl
    go_wp2_with fail
    (with_reducible refine cl'.mono ?_)
    rintro e w3 ⟨A3, c3, rfl, -, -, hL3, hb3⟩
    have HB3 := Lib.hid (HB2.out.trans (hb3.mono HB2.out.size))
    have H53 := Lib.hid (H5.out.below hb3)
    have cs' := cs w3 A3 c3 hL3
    clear cl' hL3 hb3 cs H5
    go_wp2_with fail
    (with_reducible refine cs'.mono ?_)
    rintro e W0 ⟨A7, c7, rfl, -, -, h7, hb4⟩
    have HB4 := Lib.hid (HB3.out.trans (hb4.mono HB3.out.size))
    have H54 := Lib.hid (H53.out.below hb4)
    have H7 := Lib.hid h7
    have HL4 := Lib.hid (HL.out.below HB4.out)
    clear cs' h7 hb4 H53
    rw [iz_len] at hzl ⊢
    rw [iz_len]
    have hP0 : Hid (∃ P, (W0.alloc (.cells (madeCells #[.int .i64 0] n) 3)).rowIs W0.heap.size 3 n (fun j => .int .i64 (P j)) ∧ Pos Q 0 P) := Lib.hid ⟨fun _ => 0, World.rowIs_made W0 _ n _, Pos.zero Q⟩
    go_wp2_with fail
    go_loopg [9] (Q.length) (fun m s9 wr => ∃ i : Nat, i + m = Q.length ∧ s9 = .int .i64 (i : Int) ∧ Hid (Below W0.heap.size W0 wr) ∧ Hid (∃ P, wr.rowIs W0.heap.size 3 n (fun j => .int .i64 (P j)) ∧ Pos Q i P))
    case atStart => exact ⟨0, by omega, rfl, Lib.hid (below_alloc _ _), hP0⟩
    case round =>
      obtain ⟨i, him, rfl, HW, HP⟩ := hrel
      clear hP0
      have HIM := Lib.hid him
      by_cases hi : i < Q.length
      · have hiz : (i : Int) < (Q.length : Int) := by omega
        obtain ⟨b5, o5, rfl, hc⟩ := is_at (H54.out.below HW.out) (k := i) (by rw [iz_len]; exact hi)
        rw [iz_at hi] at hc
        have hqm := List.getElem_mem hi
        have hqs : Q[i]? = some Q[i] := List.getElem?_eq_getElem hi
        generalize Q[i] = q at *
        have hq := HA.out.lt q hqm
        obtain ⟨P, hr, hP⟩ := HP.out
        obtain ⟨hp0, hP'⟩ := hP.step HA.out.nd hqs
        have hcq := hr.cell hq
        rw [hp0] at hcq
        have hfz := hr.frozen q
        have hq0 : ¬ (q : Int) < 0 := by omega
        have hqn : (q : Int) < (n : Int) := by omega
        have HR2 : Hid (∃ P, (wr.setCell ⟨W0.heap.size, q, none⟩ (.int .i64 ((i : Int) + 1))).rowIs W0.heap.size 3 n (fun j => .int .i64 (P j)) ∧ Pos Q (i + 1) P) := Lib.hid ⟨_, (hr.set q _).congr fun j _ => by split <;> rfl, hP'⟩
        have HW2 := Lib.hid (show Below W0.heap.size W0 (wr.setCell ⟨W0.heap.size, q, none⟩ (.int .i64 ((i : Int) + 1))) from HW.out.setCell (Nat.le_refl _) _)
        clear him hqm hqs hr hP hP' hp0
        go_wp2_with fail
        go_roundg (Q.length - (i + 1))
        case measure => have := HIM.out; omega
        case rel => exact ⟨i + 1, by have := HIM.out; omega, by go_num, HW2, HR2⟩
      · have hiz : ¬ (i : Int) < (Q.length : Int) := by omega
        obtain rfl : i = Q.length := by omega
        obtain ⟨P, hr, hP⟩ := HP.out
        have HR := Lib.hid hr
        have HPP := Lib.hid hP
        have H7w := Lib.hid (H7.out.below HW.out)
        have HLw := Lib.hid (HL4.out.below HW.out)
        have HBw := Lib.hid (HB4.out.trans (HW.out.mono HB4.out.size))
        obtain ⟨W1, hW1⟩ : ∃ W1, W1 = wr := ⟨_, rfl⟩
        subst hW1
        have hE0 : Hid (∃ E : Nat → Bool, (W1.alloc (.cells (madeCells #[.bool false] n) 4)).rowIs W1.heap.size 4 n (fun j => .bool (E j)) ∧ ∀ j, E j = true ↔ j ∈ R.take 0) := Lib.hid ⟨fun _ => false, World.rowIs_made W1 _ n _, fun j => by simp⟩
        clear him hr hP HP HIM H54 H7 HL4 HB4 HW
        go_wp2_with fail
        go_loopg [11] (R.length) (fun m s11 wx => ∃ i : Nat, i + m = R.length ∧ s11 = .int .i64 (i : Int) ∧ Hid (Below W1.heap.size W1 wx) ∧ Hid (∃ E : Nat → Bool, wx.rowIs W1.heap.size 4 n (fun j => .bool (E j)) ∧ ∀ j, E j = true ↔ j ∈ R.take i))
        case atStart => exact ⟨0, by omega, rfl, Lib.hid (below_alloc _ _), hE0⟩
        case round =>
          obtain ⟨i, him, rfl, HW, HE⟩ := hrel
          clear hE0
          have HIM := Lib.hid him
          by_cases hi : i < R.length
          · have hiz : (i : Int) < (R.length : Int) := by omega
            obtain ⟨b7, o7, rfl, hc⟩ := is_at (H7w.out.below HW.out) (k := i) (by rw [iz_len]; exact hi)
            rw [iz_at hi] at hc
            have hqm := List.getElem_mem hi
            have HTK := Lib.hid (List.take_succ_eq_append_getElem hi)
            generalize R[i] = q at *
            have hq := ((HA.out.left q).1 hqm).1
            obtain ⟨E, hr, hE⟩ := HE.out
            have hcq := hr.cell hq
            have hfz := hr.frozen q
            have hq0 : ¬ (q : Int) < 0 := by omega
            have hqn : (q : Int) < (n : Int) := by omega
            have HE2 : Hid (∃ E : Nat → Bool, (wr.setCell ⟨W1.heap.size, q, none⟩ (.bool true)).rowIs W1.heap.size 4 n (fun j => .bool (E j)) ∧ ∀ j, E j = true ↔ j ∈ R.take (i + 1)) := Lib.hid ⟨upd E q, (hr.set q _).congr fun j _ => (by unfold upd; split <;> rfl), fun j => by rw [upd_at, hE j, HTK.out, List.mem_append, List.mem_singleton]; exact Or.comm⟩
            have HW2 := Lib.hid (show Below W1.heap.size W1 (wr.setCell ⟨W1.heap.size, q, none⟩ (.bool true)) from HW.out.setCell (Nat.le_refl _) _)
            clear him hqm hr hE
            go_wp2_with fail
            go_roundg (R.length - (i + 1))
            case measure => have := HIM.out; omega
            case rel => exact ⟨i + 1, by have := HIM.out; omega, by go_num, HW2, HE2⟩
          · have hiz : ¬ (i : Int) < (R.length : Int) := by omega
            obtain rfl : i = R.length := by omega
            obtain ⟨E, hrE, hE⟩ := HE.out
            have HRE := Lib.hid hrE
            have HRP := Lib.hid (row_later HR.out HW.out)
            have HEE := Lib.hid (show ∀ j, j < n → (E j = true ↔ D j = false) from fun j hj => by rw [hE j, List.take_length, HA.out.left j]; exact ⟨fun h => h.2, fun h => ⟨hj, h⟩⟩)
            have HL2 := Lib.hid (HLw.out.below HW.out)
            have HB2 := Lib.hid (HBw.out.trans (HW.out.mono HBw.out.size))
            obtain ⟨W2, hW2⟩ : ∃ W2, W2 = wr := ⟨_, rfl⟩
            subst hW2
            clear him hrE hE HE HIM H7w HLw HBw HW HR
            go_wp2_with fail
            go_loopg [12] (n) (fun m s12 wy => ∃ i : Nat, i + m = n ∧ s12 = .int .i64 (i : Int) ∧ Hid (Below W2.heap.size W2 wy))
            case atStart => exact ⟨0, by omega, rfl, Lib.hid (Below.refl _ _)⟩
            case round =>
              obtain ⟨i, him, rfl, HW⟩ := hrel
              have HIM := Lib.hid him
              obtain ⟨G, hG⟩ : ∃ G, G = gk := ⟨_, rfl⟩
              subst hG
              by_cases hi : i < n
              · have hiz : (i : Int) < (n : Int) := by omega
                obtain ⟨l, hl0⟩ : ∃ l, l = rowL L i := ⟨_, rfl⟩
                have HL0 := Lib.hid hl0
                have hrow : l.length = 0 ∨ i < L.length := by
                  by_cases h : i < L.length
                  · exact .inr h
                  · exact .inl (by rw [hl0, rowL_out (by omega)]; rfl)
                have HROW := Lib.hid hrow
                obtain ⟨W3, hW3⟩ : ∃ W3, W3 = wr := ⟨_, rfl⟩
                subst hW3
                have HW3 := HW
                clear him hrow hl0
                go_wp2_with fail
                go_loopg [13, 14] (l.length) (fun m s13 s14 wz => ∃ (k : Nat) (H : Bool), k + m = l.length ∧ s14 = .int .i64 (k : Int) ∧ s13 = .bool H ∧ Hid (H = true ↔ ∃ x ∈ l.take k, inn n x = true ∧ D x.toNat = false) ∧ Hid (Below W2.heap.size W2 wz))
                case atStart => exact ⟨0, false, by omega, rfl, rfl, Lib.hid (by simp), HW⟩
                case round =>
                  clear HW HW3
                  obtain ⟨k, H, hkm, rfl, rfl, HH, HW⟩ := hrel
                  have HKM := Lib.hid hkm
                  have hcei := (row_later HRE.out HW.out).cell hi
                  by_cases hk : k < l.length
                  · have hiL : i < L.length := by rcases HROW.out with h | h; omega; exact h
                    have hiLz : (i : Int) < (L.length : Int) := by omega
                    obtain ⟨bl, ol, B, cl3, rfl, hcl, h1, h2, h3, -, -⟩ := (HL2.out.below HW.out).at hiL
                    rw [← HL0.out] at hcl h1 h2 h3
                    have hkz : (k : Int) < (l.length : Int) := by omega
                    obtain ⟨bx, ox, rfl, hcx⟩ := is_at h3 hk
                    have HXM := Lib.hid (show l[k] ∈ rowL L i by rw [← HL0.out]; exact List.getElem_mem hk)
                    have HTK := Lib.hid (List.take_succ_eq_append_getElem hk)
                    generalize l[k] = x at *
                    clear h3 hkm
                    by_cases hx0 : x < 0
                    · have HS : Hid (H = true ↔ ∃ x ∈ l.take (k + 1), inn n x = true ∧ D x.toNat = false) := Lib.hid (by
                        rw [HTK.out, HH.out]
                        constructor
                        · rintro ⟨y, hy, h⟩; exact ⟨y, List.mem_append_left _ hy, h⟩
                        · rintro ⟨y, hy, h, h'⟩
                          rcases List.mem_append.1 hy with hy | hy
                          · exact ⟨y, hy, h, h'⟩
                          · rw [List.mem_singleton.1 hy] at h; exact absurd (inn_iff.1 h).1 (by omega))
                      go_wp2_with fail
                      go_roundg (l.length - (k + 1))
                      case measure => have := HKM.out; omega
                      case rel => exact ⟨k + 1, H, by have := HKM.out; omega, by go_num, rfl, HS, HW⟩
                    by_cases hxn : x < (n : Int)
                    · obtain ⟨m, rfl⟩ : ∃ m : Nat, x = (m : Int) := ⟨x.toNat, by omega⟩
                      have hm : m < n := by omega
                      have hcm := (row_later HRE.out HW.out).cell hm
                      have hpm := (row_later HRP.out HW.out).cell hm
                      have hpi := (row_later HRP.out HW.out).cell hi
                      have hat : True := trivial
                      have HME := Lib.hid (HEE.out m hm)
                      have HS : Hid ((H || E m) = true ↔ ∃ x ∈ l.take (k + 1), inn n x = true ∧ D x.toNat = false) := Lib.hid (by
                        rw [HTK.out, Bool.or_eq_true, HH.out, HME.out]
                        constructor
                        · rintro (⟨y, hy, h⟩ | h)
                          · exact ⟨y, List.mem_append_left _ hy, h⟩
                          · exact ⟨(m : Int), List.mem_append_right _ (List.mem_singleton.2 rfl), inn_nat hm, by simpa using h⟩
                        · rintro ⟨y, hy, h, h'⟩
                          rcases List.mem_append.1 hy with hy | hy
                          · exact .inl ⟨y, hy, h, h'⟩
                          · rw [List.mem_singleton.1 hy] at h'; exact .inr (by simpa using h'))
                      generalize P m = pm at *
                      generalize P i = pi at *
                      generalize hEm : E m = em at *
                      have HEM := Lib.hid hEm
                      clear hEm
                      go_wp2_with fail
                      go_quiet (fail)
                      have HWD := fun q => Lib.hid (below_drw HW.out q)
                      cases H with
                      | true =>
                        go_wp2_with fail
                        go_roundg (l.length - (k + 1))
                        case measure => have := HKM.out; omega
                        case rel => exact ⟨k + 1, true, by have := HKM.out; omega, by go_num, rfl, HS, HWD _⟩
                      | false =>
                        go_wp2_with fail
                        go_roundg (l.length - (k + 1))
                        case measure => have := HKM.out; omega
                        case rel => exact ⟨k + 1, em, by have := HKM.out; omega, by go_num, rfl, HS, HWD _⟩
                    · have HS : Hid (H = true ↔ ∃ x ∈ l.take (k + 1), inn n x = true ∧ D x.toNat = false) := Lib.hid (by
                        rw [HTK.out, HH.out]
                        constructor
                        · rintro ⟨y, hy, h⟩; exact ⟨y, List.mem_append_left _ hy, h⟩
                        · rintro ⟨y, hy, h, h'⟩
                          rcases List.mem_append.1 hy with hy | hy
                          · exact ⟨y, hy, h, h'⟩
                          · rw [List.mem_singleton.1 hy] at h; exact absurd (inn_iff.1 h).2 (by omega))
                      go_wp2_with fail
                      go_roundg (l.length - (k + 1))
                      case measure => have := HKM.out; omega
                      case rel => exact ⟨k + 1, H, by have := HKM.out; omega, by go_num, rfl, HS, HW⟩
                  · have hkz : ¬ (k : Int) < (l.length : Int) := by omega
                    have hEH : E i = H := by
                      have h1 := HEE.out i hi
                      have h2 := HH.out
                      rw [List.take_of_length_le (by omega)] at h2
                      have h3 := HA.out.held i hi
                      rw [← HL0.out] at h3
                      cases hE : E i with
                      | true => exact (h2.2 (h3.1 (h1.1 hE))).symm
                      | false =>
                        cases H with
                        | false => rfl
                        | true => have := h1.2 (h3.2 (h2.1 rfl)); rw [hE] at this; cases this
                    rw [hEH] at hcei
                    have hHH : (H != H) = false := by simp
                    clear hEH hkm
                    by_cases hiL : i < L.length
                    · have hiLz : (i : Int) < (L.length : Int) := by omega
                      obtain ⟨bl, ol, B, cl3, rfl, hcl, -⟩ := (HL2.out.below HW.out).at hiL
                      rw [← HL0.out] at hcl
                      go_wp2_with fail
                      go_roundg (n - (i + 1))
                      case measure => have := HIM.out; omega
                      case rel => exact ⟨i + 1, by have := HIM.out; omega, by go_num, HW⟩
                    · have hiLz : ¬ (i : Int) < (L.length : Int) := by omega
                      go_wp2_with fail
                      go_roundg (n - (i + 1))
                      case measure => have := HIM.out; omega
                      case rel => exact ⟨i + 1, by have := HIM.out; omega, by go_num, HW⟩
              · have hiz : ¬ (i : Int) < (n : Int) := by omega
                have caw := ca wr
                have HR := Lib.hid (HB2.out.trans (HW.out.mono HB2.out.size))
                clear him
                go_wp2_with fail
                (with_reducible refine caw.mono ?_)
                rintro e w9 ⟨rfl, hb9⟩
                have HR9 := Lib.hid (HR.out.trans (hb9.mono HR.out.size))
                clear hb9 caw
                go_wp2_with fail
                go_ret
                exact ⟨rfl, HR9.out⟩
end Go.Proofs.Ytbacphifmbjooaa
