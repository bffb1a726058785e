/- Several texts in one: LexC, LexRun, LexD, LexE, LexT, LexU, LexV, LexW. -/
import Derived.Test.YtkbeemkmcnfiiaaGreatDoorGD
import Derived.Test.YtkbeemkmcnfiiaaGreatDoorGB
import Derived.Test.YtkbeemkmcnfiiaaGreatDoorMValid
import Derived.Test.YtkbeemkmcnfiiaaGreatDoorGA
import Derived.Deep.LoopGhost
import Derived.WalkMore
import Derived.IntWalk
import Derived.Lib.IndexLaws
namespace Go.Proofs.YtkbeemkmcnfiiaaGreatDoor
/- The contracts of lex.control, lex.sign, lex.run. -/
section
open Go.RowKit

set_option maxHeartbeats 400000 in
theorem control_any (r : Nat) (w : World) : Calls Tryz.prog 88 #[.int .i32 (r : Int)] w fun e w' => e = .returned (.bool (decide (Ctrl r))) ∧ w = w' := by
  by_cases h1 : r < 32
  · have hd : decide (Ctrl r) = true := decide_eq_true (.inl h1)
    have hz : (r : Int) < 32 := by omega
    rw [hd]
    clear hd
    go_enter Tryz.func88, Tryz.ntmps88
    go_wp2
    go_ret
    exact ⟨rfl, rfl⟩
  · have hz : ¬ (r : Int) < 32 := by omega
    by_cases h2 : 127 ≤ r
    · have hz2 : (127 : Int) ≤ (r : Int) := by omega
      by_cases h3 : r ≤ 159
      · have hd : decide (Ctrl r) = true := decide_eq_true (.inr ⟨h2, h3⟩)
        have hz3 : (r : Int) ≤ 159 := by omega
        rw [hd]
        clear hd
        go_enter Tryz.func88, Tryz.ntmps88
        go_wp2
        go_ret
        exact ⟨rfl, rfl⟩
      · have hd : decide (Ctrl r) = false := decide_eq_false (by unfold Ctrl; omega)
        have hz3 : ¬ (r : Int) ≤ 159 := by omega
        rw [hd]
        clear hd
        go_enter Tryz.func88, Tryz.ntmps88
        go_wp2
        go_ret
        exact ⟨rfl, rfl⟩
    · have hd : decide (Ctrl r) = false := decide_eq_false (by unfold Ctrl; omega)
      have hz2 : ¬ (127 : Int) ≤ (r : Int) := by omega
      rw [hd]
      clear hd
      go_enter Tryz.func88, Tryz.ntmps88
      go_wp2
      go_ret
      exact ⟨rfl, rfl⟩

/- ### sign -/
def signsL : List UInt8 := [43, 45, 42, 47, 37, 40, 41, 44, 61, 60, 62, 38, 124, 33]
theorem signs_index : ∀ b : Fin 256, (isSign b.val = true ↔ 0 ≤ Lib.indexByte signsL (UInt8.ofNat b.val)) := by decide +kernel
theorem sign_index (b : UInt8) : isSign b.toNat = true ↔ 0 ≤ Lib.indexByte signsL b := by
  have := signs_index ⟨b.toNat, b.toNat_lt⟩
  rwa [UInt8.ofNat_toNat] at this
theorem prefix_two (b c d : UInt8) (r : List UInt8) : Lib.hasPrefix (b :: r) [c, d] = (decide (b = c) && decide (r.head? = some d)) := by
  cases r with
  | nil => simp [Lib.hasPrefix, List.isPrefixOf]
  | cons e r =>
    simp only [Lib.hasPrefix, List.isPrefixOf, List.head?_cons, Option.some.injEq, Bool.and_true]
    congr 1
    · by_cases h : c = b
      · rw [h, decide_eq_true rfl]; exact beq_self_eq_true b
      · rw [decide_eq_false (fun e => h e.symm)]; exact beq_eq_false_iff_ne.2 h
    · by_cases h : d = e
      · rw [h, decide_eq_true rfl]; exact beq_self_eq_true e
      · rw [decide_eq_false (fun e => h e.symm)]; exact beq_eq_false_iff_ne.2 h
/-- What sign answers, as it asks. -/
theorem sgnB_asks (b : UInt8) (r : List UInt8) : sgnB (b :: r) = if Lib.hasPrefix (b :: r) [60, 61] then 2 else if Lib.hasPrefix (b :: r) [62, 61] then 2 else if Lib.hasPrefix (b :: r) [33, 61] then 2 else if 0 ≤ Lib.indexByte signsL b then 1 else 0 := by
  rw [sgnB_cons, prefix_two, prefix_two, prefix_two]
  have t : ∀ c : UInt8, c = b ∨ c ≠ b := fun c => Classical.em _
  have two : isTwo b.toNat = true ↔ (b = 60 ∨ b = 62 ∨ b = 33) := by
    rw [isTwo_iff]
    constructor
    · rintro (h | h | h)
      · exact .inl (UInt8.toNat_inj.1 h)
      · exact .inr (.inl (UInt8.toNat_inj.1 h))
      · exact .inr (.inr (UInt8.toNat_inj.1 h))
    · rintro (rfl | rfl | rfl)
      · exact .inl rfl
      · exact .inr (.inl rfl)
      · exact .inr (.inr rfl)
  have sg : isTwo b.toNat = true → isSign b.toNat = true := fun h => by
    have := (isTwo_iff _).1 h
    exact (isSign_iff _).2 (by omega)
  by_cases h61 : r.head? = some 61
  · simp only [h61, decide_true, Bool.and_true, and_true]
    by_cases h2 : isTwo b.toNat = true
    · rw [if_pos (sg h2), if_pos h2]
      rcases two.1 h2 with rfl | rfl | rfl <;> rfl
    · have hn : ¬ b = 60 ∧ ¬ b = 62 ∧ ¬ b = 33 := ⟨fun e => h2 (two.2 (.inl e)), fun e => h2 (two.2 (.inr (.inl e))), fun e => h2 (two.2 (.inr (.inr e)))⟩
      rw [if_neg h2]
      simp only [hn.1, hn.2.1, hn.2.2, decide_false]
      by_cases hs : isSign b.toNat = true
      · rw [if_pos hs]; simp [(sign_index b).1 hs]
      · rw [if_neg hs]
        have : ¬ 0 ≤ Lib.indexByte signsL b := fun h => hs ((sign_index b).2 h)
        simp [this]
  · simp only [h61, decide_false, Bool.and_false, and_false]
    by_cases hs : isSign b.toNat = true
    · rw [if_pos hs]; simp [(sign_index b).1 hs]
    · rw [if_neg hs]
      have : ¬ 0 ≤ Lib.indexByte signsL b := fun h => hs ((sign_index b).2 h)
      simp [this]
set_option maxHeartbeats 1000000 in
theorem sign_any (t : ByteArray) (w : World) (hne : t.data.toList ≠ []) (hs : t.size ≤ 1099511627776) :
    Calls Tryz.prog 78 #[.string t] w fun e w' => e = .returned (.int .i64 (sgnB t.data.toList : Int)) ∧ w = w' := by
  have c1 := fun w => hasPrefix_any t ⟨#[60, 61]⟩ w
  have c2 := fun w => hasPrefix_any t ⟨#[62, 61]⟩ w
  have c3 := fun w => hasPrefix_any t ⟨#[33, 61]⟩ w
  have hlt : 0 < t.size := by rw [← size_list]; exact List.length_pos_iff.2 hne
  have hltz : (0 : Int) < (t.size : Int) := by omega
  obtain ⟨b, r, hl⟩ : ∃ b r, t.data.toList = b :: r := by
    cases h : t.data.toList with
    | nil => exact absurd h hne
    | cons b r => exact ⟨b, r, rfl⟩
  have hb : t[0] = b := by
    have : t.data.toList[0]? = some t[0] := by rw [List.getElem?_eq_getElem (by rw [size_list]; exact hlt)]; rfl
    rw [hl] at this
    injection this with this; exact this.symm
  have c4 := fun w => indexByte_any ⟨#[43, 45, 42, 47, 37, 40, 41, 44, 61, 60, 62, 38, 124, 33]⟩ (t[0].toNat : Int) w
  have hcs : ((t[0].toNat : Int)).toNat.toUInt8 = b := by rw [hb]; simp
  simp only [hcs] at c4
  rw [hl, sgnB_asks]
  simp only [hl] at c1 c2 c3
  have x4 : Lib.indexByte [43, 45, 42, 47, 37, 40, 41, 44, 61, 60, 62, 38, 124, 33] b = Lib.indexByte signsL b := rfl
  simp only [x4] at c4
  clear hcs hb hl x4 hne
  cases h1 : Lib.hasPrefix (b :: r) [60, 61] with
  | true =>
    simp only [h1] at c1
    clear c2 c3 c4 h1
    rw [if_pos rfl]
    go_enter Tryz.func78, Tryz.ntmps78
    go_wp2_with fail
    refine (c1 _).mono ?_
    rintro e w1 ⟨rfl, rfl⟩
    go_wp2
    go_ret
    exact ⟨rfl, rfl⟩
  | false =>
    simp only [h1] at c1
    clear h1
    rw [if_neg (by decide)]
    cases h2 : Lib.hasPrefix (b :: r) [62, 61] with
    | true =>
      simp only [h2] at c2
      clear c3 c4 h2
      rw [if_pos rfl]
      go_enter Tryz.func78, Tryz.ntmps78
      go_wp2_with fail
      refine (c1 _).mono ?_
      rintro e w1 ⟨rfl, rfl⟩
      go_wp2_with fail
      refine (c2 _).mono ?_
      rintro e w1 ⟨rfl, rfl⟩
      go_wp2
      go_ret
      exact ⟨rfl, rfl⟩
    | false =>
      simp only [h2] at c2
      clear h2
      rw [if_neg (by decide)]
      cases h3 : Lib.hasPrefix (b :: r) [33, 61] with
      | true =>
        simp only [h3] at c3
        clear c4 h3
        rw [if_pos rfl]
        go_enter Tryz.func78, Tryz.ntmps78
        go_wp2_with fail
        refine (c1 _).mono ?_
        rintro e w1 ⟨rfl, rfl⟩
        go_wp2_with fail
        refine (c2 _).mono ?_
        rintro e w1 ⟨rfl, rfl⟩
        go_wp2_with fail
        refine (c3 _).mono ?_
        rintro e w1 ⟨rfl, rfl⟩
        go_wp2
        go_ret
        exact ⟨rfl, rfl⟩
      | false =>
        simp only [h3] at c3
        clear h3
        rw [if_neg (by decide)]
        generalize Lib.indexByte signsL b = I at c4 ⊢
        by_cases h4 : 0 ≤ I
        · rw [if_pos h4]
          go_enter Tryz.func78, Tryz.ntmps78
          go_wp2_with fail
          refine (c1 _).mono ?_
          rintro e w1 ⟨rfl, rfl⟩
          go_wp2_with fail
          refine (c2 _).mono ?_
          rintro e w1 ⟨rfl, rfl⟩
          go_wp2_with fail
          refine (c3 _).mono ?_
          rintro e w1 ⟨rfl, rfl⟩
          go_wp2_with fail
          refine (c4 _).mono ?_
          rintro e w1 ⟨rfl, rfl⟩
          go_wp2
          go_ret
          exact ⟨rfl, rfl⟩
        · rw [if_neg h4]
          go_enter Tryz.func78, Tryz.ntmps78
          go_wp2_with fail
          refine (c1 _).mono ?_
          rintro e w1 ⟨rfl, rfl⟩
          go_wp2_with fail
          refine (c2 _).mono ?_
          rintro e w1 ⟨rfl, rfl⟩
          go_wp2_with fail
          refine (c3 _).mono ?_
          rintro e w1 ⟨rfl, rfl⟩
          go_wp2_with fail
          refine (c4 _).mono ?_
          rintro e w1 ⟨rfl, rfl⟩
          go_wp2
          go_ret
          exact ⟨rfl, rfl⟩
end
/- The contract of lex.run: how many bytes the pieces have that are of some classes, up to the first other one. -/
section
open Go.RowKit

def inC (cs : List Int) (x : Pc) : Bool := cs.contains (classZ (x.1 : Int))
theorem takeWhile_at {p : Pc → Bool} {C Y : List Pc} (hC : ∀ y ∈ C, p y = true) (hY : ∀ y, Y.head? = some y → p y = false) : (C ++ Y).takeWhile p = C := by
  rw [List.takeWhile_append_of_pos hC]
  cases Y with
  | nil => simp
  | cons y Y => rw [List.takeWhile_cons_of_neg (by rw [hY y rfl]; simp), List.append_nil]
theorem pcs_piece (s : ByteArray) (pos : Nat) (h : pos < s.size) : ∃ x : Pc, x.1 = (Utf8.decode s pos).1 ∧ x.2.length = (Utf8.decode s pos).2 ∧ pcs (s.data.toList.drop pos) = x :: pcs (s.data.toList.drop (pos + (Utf8.decode s pos).2)) := by
  have hw := width_in s pos h
  refine ⟨((Utf8.decode s pos).1, (s.data.toList.drop pos).take (Utf8.decode s pos).2), rfl, ?_, ?_⟩
  · dsimp only
    rw [List.length_take, List.length_drop, ← Lib.size_eq]; omega
  · rw [pcs_step _ (drop_ne s pos h), Lib.decodeL_drop, List.drop_drop]
/-- How far the pieces are read. -/
def At (t : ByteArray) (P : List Pc) (pos : Nat) (C Y : List Pc) : Prop := C ++ Y = P ∧ pcs (t.data.toList.drop pos) = Y ∧ (flat C).length = pos ∧ pos ≤ t.size
theorem At.start (t : ByteArray) (P : List Pc) (h : pcs t.data.toList = P) : At t P 0 [] P := ⟨rfl, by simpa using h, rfl, Nat.zero_le _⟩
theorem At.next {t : ByteArray} {P : List Pc} {pos : Nat} {C Y : List Pc} (h : At t P pos C Y) (hp : pos < t.size) :
    ∃ x Z, Y = x :: Z ∧ x.1 = (Utf8.decode t pos).1 ∧ x.2.length = (Utf8.decode t pos).2 ∧ At t P (pos + (Utf8.decode t pos).2) (C ++ [x]) Z := by
  obtain ⟨h1, h2, h3, h4⟩ := h
  obtain ⟨x, e1, e2, e3⟩ := pcs_piece t pos hp
  have hw := width_in t pos hp
  refine ⟨x, _, by rw [← h2, e3], e1, e2, ?_, rfl, ?_, hw.2⟩
  · rw [List.append_assoc, ← h1, ← h2, e3]; rfl
  · rw [flat_append, List.length_append, h3, flat_cons, flat_nil, List.append_nil, e2]
theorem At.done {t : ByteArray} {P : List Pc} {pos : Nat} {C Y : List Pc} (h : At t P pos C Y) (hp : ¬ pos < t.size) : Y = [] ∧ C = P ∧ pos = t.size := by
  obtain ⟨h1, h2, h3, h4⟩ := h
  rw [drop_nil t pos hp, pcs_nil] at h2
  subst h2
  exact ⟨rfl, by simpa using h1, by omega⟩

set_option maxHeartbeats 2000000 in
set_option maxRecDepth 100000 in
theorem run_any (cs : List Int) (g cap : Nat) (t : ByteArray) (P : List Pc) (w : World) (hs : t.size ≤ 1099511627776) (hl : cs.length ≤ 100) (hg : g < w.heap.size)
    (hc : ∀ j c, cs[j]? = some c → w.cell? ⟨g, j, none⟩ = some (.int .i64 c)) (hP : pcs t.data.toList = P) :
    Calls Tryz.prog 74 #[.string t, .slice (some ⟨g, 0, none⟩) cs.length cap] w fun e w' => e = .returned (.int .i64 ((flat (P.takeWhile (inC cs))).length : Int)) ∧ Below w.heap.size w w' := by
  have h0 : At t P 0 [] P := At.start t P hP
  have hsz : (flat P).length = t.size := by rw [← hP, flat_pcs]; exact size_list t
  have H0 := Lib.hid h0
  have HC := Lib.hid hc
  have HSZ := Lib.hid hsz
  clear h0 hc hP hsz
  go_enter Tryz.func74, Tryz.ntmps74
  go_wp2
  go_step3
  go_wp2
  go_step3
  go_wp2
  go_loopg [] (P.length) (fun n wr => ∃ pos C Y, Hid (At t P pos C Y ∧ (∀ y ∈ C, inC cs y = true)) ∧ Y.length = n ∧ pos ≤ t.size ∧ wr = w.iter t pos)
  case atStart => exact ⟨0, [], P, Lib.hid ⟨H0.out, fun y hy => by cases hy⟩, rfl, by omega, rfl⟩
  case round =>
    obtain ⟨pos, C, Y, HA, hn, hps, rfl⟩ := hrel
    by_cases hp : pos < t.size
    · have hnx : ∀ ty, (Instr.next (.pointer (some ⟨w.heap.size, 0, none⟩)) true ty).run Tryz.prog (w.iter t pos) = _ := fun ty => run_next_any w t pos ty hp
      obtain ⟨x, Z, hY, hx1, hx2, hA2⟩ := HA.out.1.next hp
      have hw := width_in t pos hp
      subst hY
      have cK := fun w => class_any ((Utf8.decode t pos).1 : Int) w
      obtain ⟨K, hK⟩ : ∃ K, classZ ((Utf8.decode t pos).1 : Int) = K := ⟨_, rfl⟩
      have hin : inC cs x = cs.contains K := by unfold inC; rw [hx1, hK]
      rw [hK] at cK
      have HN := Lib.hid hin
      have HX := Lib.hid hA2
      simp only [List.length_cons] at hn
      clear hin hA2 hK hx1 hx2 H0
      go_wp2_with fail
      refine (cK _).mono ?_
      rintro e w1 ⟨rfl, rfl⟩
      clear cK
      go_wp2_with fail
      go_loopg [20] (cs.length) (fun g2 s20 wy => ∃ j : Nat, j + g2 = cs.length ∧ s20 = .int .i64 (j : Int) ∧ Hid (∀ (i : Nat) c, i < j → cs[i]? = some c → c ≠ K) ∧ w.iter t (pos + (Utf8.decode t pos).2) = wy)
      case atStart => exact ⟨0, by omega, rfl, Lib.hid (fun i c h => absurd h (Nat.not_lt_zero i)), rfl⟩
      case round =>
        obtain ⟨j, hj, rfl, HJ, rfl⟩ := hrel
        by_cases hlt : j < cs.length
        · have hjz : (j : Int) < (cs.length : Int) := by omega
          obtain ⟨c, hcj⟩ : ∃ c, cs[j]? = some c := ⟨_, List.getElem?_eq_getElem hlt⟩
          have hcell : (w.iter t (pos + (Utf8.decode t pos).2)).cell? ⟨g, j, none⟩ = some (.int .i64 c) :=
            ((iter_below w t _).cell (p := ⟨g, j, none⟩) hg).trans (HC.out j c hcj)
          have HCJ := Lib.hid hcj
          clear hcj
          by_cases heq : c = K
          · subst heq
            go_wp2_with fail
            go_roundg Z.length
            case measure => omega
            case rel =>
              refine ⟨_, _, Z, Lib.hid ⟨HX.out, ?_⟩, rfl, by omega, rfl⟩
              intro y hy
              rcases List.mem_append.1 hy with hy | hy
              · exact HA.out.2 y hy
              · simp only [List.mem_singleton] at hy
                subst hy
                rw [HN.out]
                simp only [List.contains_iff_mem]
                exact List.mem_of_getElem? HCJ.out
          · have hne : (c == K) = false := beq_eq_false_iff_ne.2 heq
            go_wp2_with fail
            go_roundg (gk - 1)
            case measure => omega
            case rel =>
              refine ⟨j + 1, by omega, by go_num, Lib.hid ?_, rfl⟩
              intro i c2 hi hc2
              rcases Nat.lt_or_eq_of_le (Nat.le_of_lt_succ hi) with h | h
              · exact HJ.out i c2 h hc2
              · subst h
                rw [HCJ.out] at hc2
                injection hc2 with hc2
                subst hc2; exact heq
        · have hjz : ¬ (j : Int) < (cs.length : Int) := by omega
          have hno : inC cs x = false := by
            rw [HN.out, Bool.eq_false_iff]
            intro h
            rw [List.contains_iff_mem] at h
            obtain ⟨i, hi⟩ := List.getElem?_of_mem h
            have := (List.getElem?_eq_some_iff.1 hi).1
            exact HJ.out i K (by omega) hi rfl
          have hend : (flat (P.takeWhile (inC cs))).length = pos := by
            rw [← HA.out.1.1, takeWhile_at HA.out.2 (fun y hy => by simp only [List.head?_cons, Option.some.injEq] at hy; subst hy; exact hno)]
            exact HA.out.1.2.2.1
          have HE := Lib.hid hend
          clear hno hend
          go_wp2_with fail
          go_ret
          exact ⟨ret_int (by rw [HE.out]), iter_below w t _⟩
    · have hnx : ∀ ty, (Instr.next (.pointer (some ⟨w.heap.size, 0, none⟩)) true ty).run Tryz.prog (w.iter t pos) = _ := fun ty => run_next_end w t pos ty hp
      obtain ⟨-, hC, -⟩ := HA.out.1.done hp
      have hend : (flat (P.takeWhile (inC cs))).length = t.size := by
        rw [← HSZ.out]
        have h2 := HA.out.2
        rw [hC] at h2
        have := takeWhile_at (Y := []) h2 (fun y hy => by cases hy)
        rw [List.append_nil] at this
        rw [this]
      have HE := Lib.hid hend
      clear hend hC
      go_wp2_with fail
      rw [Exit.noGoto_ret]
      go_ret
      exact ⟨ret_int (by rw [HE.out]), iter_below w t _⟩
end
/- The contracts of lex.number, lex.name. -/
section
open Go.RowKit

/-- A token as it stands in memory, or comes back. -/
abbrev T4 (k : Int) (s : ByteArray) (n a : Int) : Value := .agg #[.int .i64 k, .string s, .int .i64 n, .int .i64 a]
/-- A block of four cells of the call's own. -/
structure Four (w : World) (g : Nat) (a b c d : Value) : Prop where
  lt : g < w.heap.size
  c0 : w.cell? ⟨g, 0, none⟩ = some a
  c1 : w.cell? ⟨g, 1, none⟩ = some b
  c2 : w.cell? ⟨g, 2, none⟩ = some c
  c3 : w.cell? ⟨g, 3, none⟩ = some d
  f0 : w.frozen? ⟨g, 0, none⟩ = false
  f1 : w.frozen? ⟨g, 1, none⟩ = false
  f2 : w.frozen? ⟨g, 2, none⟩ = false
  f3 : w.frozen? ⟨g, 3, none⟩ = false
theorem Four.later {w w' : World} {g : Nat} {a b c d : Value} (h : Four w g a b c d) (hb : Below w.heap.size w w') : Four w' g a b c d :=
  ⟨Nat.lt_of_lt_of_le h.lt hb.size, (hb.cell (p := ⟨g, 0, none⟩) h.lt).trans h.c0, (hb.cell (p := ⟨g, 1, none⟩) h.lt).trans h.c1, (hb.cell (p := ⟨g, 2, none⟩) h.lt).trans h.c2, (hb.cell (p := ⟨g, 3, none⟩) h.lt).trans h.c3,
    (hb.frozen (p := ⟨g, 0, none⟩) h.lt).trans h.f0, (hb.frozen (p := ⟨g, 1, none⟩) h.lt).trans h.f1, (hb.frozen (p := ⟨g, 2, none⟩) h.lt).trans h.f2, (hb.frozen (p := ⟨g, 3, none⟩) h.lt).trans h.f3⟩
theorem four_new (w : World) (a b c d : Value) (t : TypeId) : Four (w.alloc (.cells #[a, b, c, d] t)) w.heap.size a b c d := by
  have hk : w.heap.size < (w.alloc (.cells #[a, b, c, d] t)).heap.size := by rw [alloc_size]; omega
  refine ⟨hk, ?_, ?_, ?_, ?_, ?_, ?_, ?_, ?_⟩
  · rw [cells_of_alloc]; rfl
  · rw [cells_of_alloc]; rfl
  · rw [cells_of_alloc]; rfl
  · rw [cells_of_alloc]; rfl
  all_goals simp
theorem below_four {w w1 : World} {g : Nat} (h : Below w.heap.size w w1) (hg : w.heap.size ≤ g) (a b c d : Value) :
    Below w.heap.size w ((((w1.setCell ⟨g, 0, none⟩ a).setCell ⟨g, 1, none⟩ b).setCell ⟨g, 2, none⟩ c).setCell ⟨g, 3, none⟩ d) :=
  (((h.setCell (p := ⟨g, 0, none⟩) hg _).setCell (p := ⟨g, 1, none⟩) hg _).setCell (p := ⟨g, 2, none⟩) hg _).setCell (p := ⟨g, 3, none⟩) hg _

/-- What is told of a piece: the token and its bytes, or that there is none. -/
def toldV (x : Pc) (R : List Pc) : Option Fd → Value
  | none => .tuple #[T4 0 ⟨#[]⟩ 0 0, .int .i64 0]
  | some f => .tuple #[T4 f.k ⟨f.s.toArray⟩ f.n 0, .int .i64 ((flat (x :: R.take f.j)).length : Int)]
def Told (x : Pc) (R : List Pc) (o : Option Fd) (w : World) (e : Ending) (w' : World) : Prop := e = .returned (toldV x R o) ∧ Below w.heap.size w w'

theorem take_takeWhile (p : Pc → Bool) (R : List Pc) : R.take (R.takeWhile p).length = R.takeWhile p := (List.prefix_iff_eq_take.1 (List.takeWhile_prefix p)).symm
theorem flat_pre {t : ByteArray} {P D : List Pc} (hP : pcs t.data.toList = P) (hD : D <+: P) : (flat D).length ≤ t.size ∧ (t.extract 0 (flat D).length).data.toList = flat D := by
  obtain ⟨E, rfl⟩ := hD
  have e : t.data.toList = flat D ++ flat E := by rw [← flat_append, ← hP, flat_pcs]
  have hl := congrArg List.length e
  rw [size_list, List.length_append] at hl
  refine ⟨by omega, ?_⟩
  rw [Lib.extract_data, List.drop_zero, Nat.sub_zero, e, List.take_left]
theorem two_cells (w : World) (cs : List Int) (t : TypeId) : ∀ j c, cs[j]? = some c → (w.alloc (.cells (cs.map (Value.int .i64)).toArray t)).cell? ⟨w.heap.size, j, none⟩ = some (.int .i64 c) := by
  intro j c hc
  rw [cells_of_alloc]
  simp [hc]
theorem inC_dig : inC [2] = isDig := by
  funext y; unfold inC isDig
  by_cases h : classZ (y.1 : Int) = 2 <;> simp [h]
theorem inC_word : inC [1, 2] = isWord := by
  funext y; unfold inC isWord
  by_cases h : classZ (y.1 : Int) = 1 <;> by_cases h2 : classZ (y.1 : Int) = 2 <;> simp [h, h2]

set_option maxHeartbeats 1000000 in
set_option maxRecDepth 100000 in
theorem number_any (t : ByteArray) (x : Pc) (R : List Pc) (w : World) (hs : t.size ≤ 1099511627776) (h : pcs t.data.toList = x :: R) (hx : classZ (x.1 : Int) = 2) (hE : Errs w) :
    Calls Tryz.prog 61 #[.string t] w (Told x R (numF x R) w) := by
  obtain ⟨D, hD⟩ : ∃ D, R.takeWhile isDig = D := ⟨_, rfl⟩
  have htw : (x :: R).takeWhile (inC [2]) = x :: D := by
    rw [inC_dig, List.takeWhile_cons_of_pos (by simp [isDig, hx]), hD]
  have hpre : x :: D <+: x :: R := by rw [← htw]; exact List.takeWhile_prefix _
  obtain ⟨hn, hex⟩ := flat_pre h hpre
  have hPc : Pcd (x :: R) := h ▸ Pcd.of _
  have hdig : ∀ b ∈ flat (x :: D), 48 ≤ b.toNat ∧ b.toNat ≤ 57 := by
    refine flat_digs _ (fun y hy => ⟨hPc.fit y (hpre.subset hy), ?_⟩)
    rcases List.mem_cons.1 hy with rfl | hy
    · exact hx
    · rw [← hD] at hy
      have := List.all_eq_true.1 (List.all_takeWhile (p := isDig) (l := R)) y hy
      simpa [isDig] using this
  have hne : flat (x :: D) ≠ [] := by
    rw [flat_cons]; intro e; exact hPc.head.ne (List.append_eq_nil_iff.1 e).1
  obtain ⟨k1, k2⟩ := parse_digs _ hne hdig
  have hb0 := below_alloc w (.cells #[.int .i64 0, .string ⟨#[]⟩, .int .i64 0, .int .i64 0] 71)
  have hF := four_new w (.int .i64 0) (.string ⟨#[]⟩) (.int .i64 0) (.int .i64 0) 71
  obtain ⟨w0, hw0⟩ : ∃ w0, w.alloc (.cells #[.int .i64 0, .string ⟨#[]⟩, .int .i64 0, .int .i64 0] 71) = w0 := ⟨_, rfl⟩
  rw [hw0] at hb0 hF
  have hb1 := below_alloc w0 (.cells #[.int .i64 2] 3)
  have cR := run_any [2] w0.heap.size 1 t _ (w0.alloc (.cells #[.int .i64 2] 3)) hs (by decide) (by rw [alloc_size]; omega) (two_cells w0 [2] 3) h
  rw [htw] at cR
  have hnum : numF x R = if valN (flat (x :: D)) < 9223372036854775808 then some ⟨1, [], valN (flat (x :: D)), D.length⟩ else none := by unfold numF; rw [hD]
  have htk : R.take D.length = D := by rw [← hD]; exact take_takeWhile _ _
  obtain ⟨L, hL⟩ : ∃ L, flat (x :: D) = L := ⟨_, rfl⟩
  have htold : ∀ v : Nat, toldV x R (some ⟨1, [], v, D.length⟩) = .tuple #[T4 1 ⟨#[]⟩ v 0, .int .i64 (L.length : Int)] := by
    intro v; unfold toldV; dsimp only; rw [htk, hL]; rfl
  rw [hL] at cR hn hex k1 k2 hnum
  obtain ⟨O, hO⟩ : ∃ O, numF x R = O := ⟨_, rfl⟩
  rw [hO] at hnum ⊢
  have HO := Lib.hid hnum
  have hEb : Errs (w0.alloc (.cells #[.int .i64 2] 3)) := hE.later (hb0.trans (hb1.mono hb0.size))
  have HK1 := Lib.hid k1
  have HK2 := Lib.hid k2
  have HT := Lib.hid htold
  have hnz : (L.length : Int) ≤ (t.size : Int) := by omega
  have cP := fun w hE => parse_any (t.extract 0 L.length) w (by have := Lib.size_eq (t.extract 0 L.length); rw [hex] at this; omega) hE
  rw [hex] at cP
  clear k1 k2 htold hnum hO htk hL hne hdig hPc hpre htw hD h hx hex hE
  go_enter Tryz.func61, Tryz.ntmps61
  go_wp2_with fail
  refine cR.mono ?_
  rintro e w1 ⟨rfl, b1⟩
  have hE1 := hEb.later b1
  have hF1 := (hF.later hb1).later b1
  have hbw := below_to (below_to hb0 hb1) b1
  clear cR hF hb0 hb1 b1 hEb
  go_wp2_with fail
  refine (cP _ hE1).mono ?_
  rintro e w2 ⟨⟨v, hp, rfl⟩ | ⟨v, u, a, hp, rfl⟩, b2⟩
  · have hlt : valN L < 9223372036854775808 := by
      rcases Nat.lt_or_ge (valN L) 9223372036854775808 with hlt | hge
      · exact hlt
      · exact absurd hp (HK2.out hge v)
    rw [HK1.out hlt] at hp
    injection hp with hp
    subst hp
    obtain ⟨-, z0, z1, z2, z3, f0, f1, f2, f3⟩ := hF1.later b2
    have hb3 := below_to hbw b2
    have hO := HO.out
    rw [if_pos hlt] at hO
    have HO2 := Lib.hid hO
    clear hO HO
    clear cP hw0 hF1 hbw b2 hE1
    generalize valN L = v at *
    go_wp2
    exact bodyPost_ret (v := .tuple #[T4 1 ⟨#[]⟩ v 0, .int .i64 (L.length : Int)]) (by simp [results, Tryz.results61, go_sem, z0, z1, z2, z3]) rfl ⟨by rw [HO2.out, HT.out], below_four hb3 (Nat.le_refl _) _ _ _ _⟩
  · have hge : ¬ valN L < 9223372036854775808 := fun hlt => hp _ (HK1.out hlt)
    obtain ⟨-, z0, z1, z2, z3, f0, f1, f2, f3⟩ := hF1.later b2
    have hb3 := below_to hbw b2
    have hO := HO.out
    rw [if_neg hge] at hO
    have HO2 := Lib.hid hO
    clear hO HO
    clear cP hw0 hF1 hbw b2 hE1 hp
    go_wp2
    exact bodyPost_ret (v := toldV x R none) (by simp [toldV, results, Tryz.results61, go_sem, z0, z1, z2, z3]) rfl ⟨by rw [HO2.out], below_four hb3 (Nat.le_refl _) _ _ _ _⟩

set_option maxHeartbeats 1000000 in
set_option maxRecDepth 100000 in
theorem name_any (t : ByteArray) (x : Pc) (R : List Pc) (w : World) (hs : t.size ≤ 1099511627776) (h : pcs t.data.toList = x :: R) (hx : classZ (x.1 : Int) = 1) :
    Calls Tryz.prog 62 #[.string t] w (Told x R (nameF x R) w) := by
  obtain ⟨D, hD⟩ : ∃ D, R.takeWhile isWord = D := ⟨_, rfl⟩
  have htw : (x :: R).takeWhile (inC [1, 2]) = x :: D := by
    rw [inC_word, List.takeWhile_cons_of_pos (by simp [isWord, hx]), hD]
  have hpre : x :: D <+: x :: R := by rw [← htw]; exact List.takeWhile_prefix _
  obtain ⟨hn, hex⟩ := flat_pre h hpre
  have hb0 := below_alloc w (.cells #[.int .i64 0, .string ⟨#[]⟩, .int .i64 0, .int .i64 0] 71)
  have hF := four_new w (.int .i64 0) (.string ⟨#[]⟩) (.int .i64 0) (.int .i64 0) 71
  obtain ⟨w0, hw0⟩ : ∃ w0, w.alloc (.cells #[.int .i64 0, .string ⟨#[]⟩, .int .i64 0, .int .i64 0] 71) = w0 := ⟨_, rfl⟩
  rw [hw0] at hb0 hF
  have hb1 := below_alloc w0 (.cells #[.int .i64 1, .int .i64 2] 3)
  have cR := run_any [1, 2] w0.heap.size 2 t _ (w0.alloc (.cells #[.int .i64 1, .int .i64 2] 3)) hs (by decide) (by rw [alloc_size]; omega) (two_cells w0 [1, 2] 3) h
  rw [htw] at cR
  have hname : nameF x R = if (flat (x :: D)).length ≤ 24 then some ⟨3, flat (x :: D), 0, D.length⟩ else none := by unfold nameF; rw [hD]
  have htk : R.take D.length = D := by rw [← hD]; exact take_takeWhile _ _
  obtain ⟨L, hL⟩ : ∃ L, flat (x :: D) = L := ⟨_, rfl⟩
  have htold : toldV x R (some ⟨3, L, 0, D.length⟩) = .tuple #[T4 3 ⟨L.toArray⟩ 0 0, .int .i64 (L.length : Int)] := by
    unfold toldV; dsimp only; rw [htk, hL]; rfl
  rw [hL] at cR hn hex hname
  rw [hname]
  have HT := Lib.hid htold
  have hxt : t.extract 0 L.length = ⟨L.toArray⟩ := by
    apply ByteArray.ext; apply Array.toList_inj.1; rw [hex]
  have hnz : (L.length : Int) ≤ (t.size : Int) := by omega
  have cC := fun w => clone_any ⟨L.toArray⟩ w (by show L.toArray.size ≤ _; rw [List.size_toArray]; omega)
  clear htold hname htk hL hpre htw hD h hx hex
  by_cases h24 : L.length ≤ 24
  · have h24z : ¬ (24 : Int) < (L.length : Int) := by omega
    rw [if_pos h24]
    go_enter Tryz.func62, Tryz.ntmps62
    go_wp2_with fail
    refine cR.mono ?_
    rintro e w1 ⟨rfl, b1⟩
    have hF1 := (hF.later hb1).later b1
    have hbw := below_to (below_to hb0 hb1) b1
    clear cR hF hb0 hb1 b1
    go_wp2_with fail
    refine (cC _).mono ?_
    rintro e w2 ⟨rfl, b2⟩
    obtain ⟨-, z0, z1, z2, z3, f0, f1, f2, f3⟩ := hF1.later b2
    have hb3 := below_to hbw b2
    clear cC hw0 hF1 hbw b2
    go_wp2
    exact bodyPost_ret (v := .tuple #[T4 3 ⟨L.toArray⟩ 0 0, .int .i64 (L.length : Int)]) (by simp [results, Tryz.results62, go_sem, z0, z1, z2, z3]) rfl ⟨by rw [HT.out], below_four hb3 (Nat.le_refl _) _ _ _ _⟩
  · have h24z : (24 : Int) < (L.length : Int) := by omega
    rw [if_neg h24]
    go_enter Tryz.func62, Tryz.ntmps62
    go_wp2_with fail
    refine cR.mono ?_
    rintro e w1 ⟨rfl, b1⟩
    obtain ⟨-, z0, z1, z2, z3, f0, f1, f2, f3⟩ := (hF.later hb1).later b1
    have hbw := below_to (below_to hb0 hb1) b1
    clear cR hF hb0 hb1 b1 cC hw0
    go_wp2
    exact bodyPost_ret (v := toldV x R none) (by simp [toldV, results, Tryz.results62, go_sem, z0, z1, z2, z3]) rfl ⟨rfl, below_four hbw (Nat.le_refl _) _ _ _ _⟩
end
/- The contract of lex.escaped: what stands behind a backslash. -/
section
open Go.RowKit

def hexD : List UInt8 := [48, 49, 50, 51, 52, 53, 54, 55, 56, 57, 97, 98, 99, 100, 101, 102]
theorem hexD_all : ∀ b : Fin 256, Lib.indexByte hexD (UInt8.ofNat b.val) = (match hexV b.val with | none => -1 | some d => (d : Int)) := by decide +kernel
theorem hexD_index (b : UInt8) : Lib.indexByte hexD b = (match hexV b.toNat with | none => -1 | some d => (d : Int)) := by
  have := hexD_all ⟨b.toNat, b.toNat_lt⟩
  rwa [UInt8.ofNat_toNat] at this
theorem shl_or (v d : Nat) (hv : v < 4096) (hd : d < 16) : bits .or .i32 ((v : Int) * 16) (d : Int) = (v : Int) * 16 + (d : Int) :=
  bits_join .i32 31 (by decide) (fun n h0 h1 => by rw [IntKind.wrap_i32]; omega) 4 _ _ (by omega) (by omega) (by omega) (by omega) (by omega) (by omega)
theorem bytes_text (w : World) (s : ByteArray) : ∃ (C : Array Value) (z : Nat × Nat) (cap : Nat), (convert 9 33 (.string s)).run Tryz.prog w = .ok (.slice (some ⟨w.heap.size, 0, none⟩) s.size cap) (w.alloc (.cells C 5 z)).drew ∧ Bs (w.alloc (.cells C 5 z)).drew (some ⟨w.heap.size, 0, none⟩) s.data.toList := by
  refine ⟨_, _, _, run_bytes_of_string w _ _ _ s Tryz.underlying9 Tryz.underlying33 Tryz.underlying5, fun _ => ⟨_, 0, rfl, fun j hj => ?_⟩⟩
  have hj2 : j < s.data.size := by simpa using hj
  rw [Nat.zero_add]
  show (w.drew.alloc _).cell? ⟨w.drew.heap.size, j, none⟩ = _
  rw [cell_of_row _ _ j _ _ _ (heap_alloc_new w.drew _), bytesRow_at s _ j hj2, List.getD_eq_getElem?_getD, List.getElem?_eq_getElem hj]
  simp
theorem wrap32_byte (c : UInt8) : wrap32 (c.toNat : Int) = (c.toNat : Int) := by
  have := c.toNat_lt
  unfold wrap32; omega
/-- What is told of a backslash: the rune and its bytes; or none. -/
def escV : Option (Nat × Nat) → Value
  | none => .tuple #[.int .i32 0, .int .i64 0]
  | some (r, m) => .tuple #[.int .i32 (r : Int), .int .i64 ((m : Int) + 1)]
theorem prefix_cons (b : UInt8) (l p : List UInt8) : Lib.hasPrefix (b :: l) (b :: p) = Lib.hasPrefix l p := by
  simp [Lib.hasPrefix, List.isPrefixOf]
theorem prefix_one (l : List UInt8) (c : UInt8) : Lib.hasPrefix l [c] = decide (l.head? = some c) := by
  cases l with
  | nil => simp [Lib.hasPrefix, List.isPrefixOf]
  | cons e r =>
    simp only [Lib.hasPrefix, List.isPrefixOf, List.head?_cons, Option.some.injEq, Bool.and_true]
    by_cases h : c = e
    · rw [h, decide_eq_true rfl]; exact beq_self_eq_true e
    · rw [decide_eq_false (fun e => h e.symm)]; exact beq_eq_false_iff_ne.2 h
theorem esc_next (v d m : Nat) (h : (v + 1) * 16 ^ (m + 1) ≤ 65536) (hd : d < 16) : v < 4096 ∧ (v * 16 + d + 1) * 16 ^ m ≤ 65536 := by
  have hp : 1 ≤ 16 ^ m := Nat.one_le_pow _ _ (by decide)
  rw [Nat.pow_succ, Nat.mul_comm (16 ^ m) 16, ← Nat.mul_assoc] at h
  have h1 : (v + 1) * 16 ≤ (v + 1) * 16 * 16 ^ m := Nat.le_mul_of_pos_right _ hp
  refine ⟨by omega, Nat.le_trans (Nat.mul_le_mul_right _ (by omega)) h⟩

set_option maxHeartbeats 4000000 in
set_option maxRecDepth 100000 in
theorem escaped_any (t : ByteArray) (l : List UInt8) (w : World) (hs : t.size ≤ 1099511627776) (ht : t.data.toList = 92 :: l) :
    Calls Tryz.prog 89 #[.string t] w fun e w' => e = .returned (escV (escB l)) ∧ Below w.heap.size w w' := by
  have c1 := fun w => hasPrefix_any t ⟨#[92, 34]⟩ w
  have c2 := fun w => hasPrefix_any t ⟨#[92, 92]⟩ w
  have c3 := fun w => hasPrefix_any t ⟨#[92, 117]⟩ w
  have hsz : l.length + 1 = t.size := by rw [← size_list, ht]; rfl
  have hg : ∀ (i : Nat) (h : i + 1 < t.size), l[i]? = some t[i + 1] := fun i h => by
    have : t.data.toList[i + 1]? = some t[i + 1] := by rw [List.getElem?_eq_getElem (by rw [size_list]; exact h)]; rfl
    rw [ht] at this; exact this
  have hx26 : 6 ≤ t.size → (t.extract 2 6).size = 4 ∧ (t.extract 2 6).data.toList = (l.drop 1).take 4 := fun h => by
    have e : (t.extract 2 6).data.toList = (l.drop 1).take 4 := by rw [Lib.extract_data, ht]; rfl
    refine ⟨?_, e⟩
    rw [← size_list, e, List.length_take, List.length_drop]; omega
  simp only [ht, prefix_cons, prefix_one] at c1
  simp only [ht, prefix_cons, prefix_one] at c2
  simp only [ht, prefix_cons, prefix_one] at c3
  have HG := Lib.hid hg
  have HX := Lib.hid hx26
  clear ht hg hx26
  obtain ⟨O, hO⟩ : ∃ O, escB l = O := ⟨_, rfl⟩
  rw [hO]
  cases l with
  | nil =>
    simp only [List.head?_nil, reduceCtorEq, decide_false] at c1 c2 c3
    subst hO
    go_enter Tryz.func89, Tryz.ntmps89
    go_wp2_with fail
    refine (c1 _).mono ?_
    rintro e w1 ⟨rfl, rfl⟩
    go_wp2_with fail
    refine (c2 _).mono ?_
    rintro e w2 ⟨rfl, rfl⟩
    go_wp2_with fail
    refine (c3 _).mono ?_
    rintro e w3 ⟨rfl, rfl⟩
    go_wp2_with fail
    go_ret2
    exact ⟨rfl, Below.refl _ _⟩
  | cons b r =>
    simp only [List.head?_cons, Option.some.injEq] at c1 c2 c3
    simp only [List.length_cons] at hsz
    have hlt : (1 : Int) < (t.size : Int) := by omega
    have hb1 : b = t[1]'(by omega) := by
      have := HG.out 0 (by omega)
      injection this
    unfold escB at hO
    dsimp only at hO
    by_cases h34 : b = 34
    · have e34 : b.toNat = 34 := by rw [h34]; rfl
      rw [if_pos (.inl e34)] at hO
      rw [hb1] at hO
      have HO := Lib.hid hO
      simp only [h34, decide_true] at c1
      clear c2 c3 hO hb1 h34 e34
      go_enter Tryz.func89, Tryz.ntmps89
      go_wp2_with fail
      refine (c1 _).mono ?_
      rintro e w1 ⟨rfl, rfl⟩
      go_wp2_with fail
      go_ret2
      exact ⟨by rw [← HO.out, wrap32_byte]; rfl, Below.refl _ _⟩
    · simp only [h34, decide_false] at c1
      by_cases h92 : b = 92
      · have e92 : b.toNat = 92 := by rw [h92]; rfl
        rw [if_pos (.inr e92)] at hO
        rw [hb1] at hO
        have HO := Lib.hid hO
        simp only [h92, decide_true] at c2
        clear c3 hO hb1 h92 e92 h34
        go_enter Tryz.func89, Tryz.ntmps89
        go_wp2_with fail
        refine (c1 _).mono ?_
        rintro e w1 ⟨rfl, rfl⟩
        go_wp2_with fail
        refine (c2 _).mono ?_
        rintro e w2 ⟨rfl, rfl⟩
        go_wp2_with fail
        go_ret2
        exact ⟨by rw [← HO.out, wrap32_byte]; rfl, Below.refl _ _⟩
      · simp only [h92, decide_false] at c2
        rw [if_neg (by
          rintro (h | h)
          · exact h34 (UInt8.toNat_inj.1 h)
          · exact h92 (UInt8.toNat_inj.1 h))] at hO
        by_cases h117 : b = 117
        · have e117 : b.toNat = 117 := by rw [h117]; rfl
          simp only [h117, decide_true] at c3
          rw [if_pos e117] at hO
          clear hb1 h117 e117 h34 h92
          by_cases h6 : t.size < 6
          · have hz : (t.size : Int) < 6 := by omega
            have hn : digsB 4 0 r = none := by
              cases hd : digsB 4 0 r with
              | none => rfl
              | some u => have := (digsB_lt 4 0 r u hd).1; omega
            rw [hn] at hO
            dsimp only at hO
            subst hO
            clear hn
            go_enter Tryz.func89, Tryz.ntmps89
            go_wp2_with fail
            refine (c1 _).mono ?_
            rintro e w1 ⟨rfl, rfl⟩
            go_wp2_with fail
            refine (c2 _).mono ?_
            rintro e w2 ⟨rfl, rfl⟩
            go_wp2_with fail
            refine (c3 _).mono ?_
            rintro e w3 ⟨rfl, rfl⟩
            go_wp2_with fail
            go_ret2
            exact ⟨rfl, Below.refl _ _⟩
          · have hz : ¬ (t.size : Int) < 6 := by omega
            have hz6 : (6 : Int) ≤ (t.size : Int) := by omega
            obtain ⟨hx4, hxl⟩ := HX.out (by omega)
            obtain ⟨C, z, cap, hconv, hBs⟩ := bytes_text w (t.extract 2 6)
            rw [hx4] at hconv
            rw [hxl] at hBs
            have hb0 : Below w.heap.size w (w.alloc (.cells C 5 z)).drew := ((Below.refl _ w).alloc (Nat.le_refl _) _).drew
            obtain ⟨w2, hw2⟩ : ∃ w2, (w.alloc (.cells C 5 z)).drew = w2 := ⟨_, rfl⟩
            rw [hw2] at hconv hBs hb0
            obtain ⟨g, off, hA, hc⟩ := hBs (by simp only [List.drop_succ_cons, List.drop_zero, List.length_take]; omega)
            injection hA with hA
            injection hA with hA1 hA2
            subst hA1 hA2
            have hcell : ∀ k c, k < 4 → r[k]? = some c → w2.cell? ⟨w.heap.size, k, none⟩ = some (.int .u8 (c.toNat : Int)) := fun k c hk hc2 => by
              have := hc k (by simp only [List.drop_succ_cons, List.drop_zero, List.length_take]; omega)
              rw [Nat.zero_add] at this
              rw [this, List.getD_eq_getElem?_getD, List.getElem?_take, if_pos hk, List.drop_succ_cons, List.drop_zero, hc2]; rfl
            have HC := Lib.hid hcell
            have HO := Lib.hid hO
            have hr4 : 4 ≤ r.length := by omega
            clear hw2 hx4 hxl hcell hc hBs hO
            go_enter Tryz.func89, Tryz.ntmps89
            go_wp2_with fail
            refine (c1 _).mono ?_
            rintro e w1 ⟨rfl, rfl⟩
            go_wp2_with fail
            refine (c2 _).mono ?_
            rintro e w2 ⟨rfl, rfl⟩
            go_wp2_with fail
            refine (c3 _).mono ?_
            rintro e w3 ⟨rfl, rfl⟩
            clear c1 c2 c3
            go_wp2_with fail
            go_loopg [4, 29] 4 (fun n s4 s29 wy => ∃ k v : Nat, k + n = 4 ∧ s29 = .int .i64 (k : Int) ∧ s4 = .int .i32 (v : Int) ∧ Hid (digsB 4 0 r = digsB n v (r.drop k)) ∧ (v + 1) * 16 ^ n ≤ 65536 ∧ wy = w2)
            case atStart => exact ⟨0, 0, rfl, rfl, rfl, Lib.hid (by rw [List.drop_zero]), by decide, rfl⟩
            case round =>
              obtain ⟨k, v, hk, rfl, rfl, HD, hv, rfl⟩ := hrel
              cases gk with
              | zero =>
                obtain rfl : k = 4 := by omega
                have hd : digsB 4 0 r = some v := by rw [HD.out]; rfl
                have hO := HO.out
                rw [hd] at hO
                dsimp only at hO
                have hv6 : v < 65536 := by simp only [Nat.pow_zero] at hv; omega
                clear hv hd HD
                by_cases hs1 : 55296 ≤ v
                · have hz1 : (55296 : Int) ≤ (v : Int) := by omega
                  by_cases hs2 : v ≤ 57343
                  · rw [if_pos ⟨hs1, hs2⟩] at hO
                    subst hO
                    have hz2 : (v : Int) ≤ 57343 := by omega
                    go_wp2_with fail
                    go_ret2
                    exact ⟨rfl, hb0⟩
                  · rw [if_neg (fun h => hs2 h.2)] at hO
                    subst hO
                    have hz2 : ¬ (v : Int) ≤ 57343 := by omega
                    go_wp2_with fail
                    go_ret2
                    exact ⟨rfl, hb0⟩
                · rw [if_neg (fun h => hs1 h.1)] at hO
                  subst hO
                  have hz1 : ¬ (55296 : Int) ≤ (v : Int) := by omega
                  go_wp2_with fail
                  go_ret2
                  exact ⟨rfl, hb0⟩
              | succ n =>
                have hk4 : k < 4 := by omega
                have hkz : (k : Int) < 4 := by omega
                obtain ⟨c, hcr⟩ : ∃ c, r[k]? = some c := ⟨_, List.getElem?_eq_getElem (by omega)⟩
                have hce := HC.out k c hk4 hcr
                have cI := fun w => indexByte_any ⟨#[48, 49, 50, 51, 52, 53, 54, 55, 56, 57, 97, 98, 99, 100, 101, 102]⟩ (c.toNat : Int) w
                have hcs : ((c.toNat : Int)).toNat.toUInt8 = c := by simp
                have hi := hexD_index c
                unfold hexD at hi
                simp only [hcs, hi] at cI
                have hdrop : r.drop k = c :: r.drop (k + 1) := by
                  obtain ⟨h1, h2⟩ := List.getElem?_eq_some_iff.1 hcr
                  rw [← h2]; exact List.drop_eq_getElem_cons h1
                cases hh : hexV c.toNat with
                | none =>
                  have hd : digsB 4 0 r = none := by rw [HD.out, hdrop]; unfold digsB; rw [hh]
                  have hO := HO.out
                  rw [hd] at hO
                  dsimp only at hO
                  subst hO
                  simp only [hh] at cI
                  clear hd hdrop hi hcs hh hv hcr HD HO
                  go_wp2_with fail
                  refine (cI _).mono ?_
                  rintro e w4 ⟨rfl, rfl⟩
                  go_wp2_with fail
                  go_ret2
                  exact ⟨rfl, hb0⟩
                | some d =>
                  have hd16 := (hexV_some hh).2
                  have hnx : digsB 4 0 r = digsB n (v * 16 + d) (r.drop (k + 1)) := by
                    rw [HD.out, hdrop]
                    conv => lhs; unfold digsB
                    rw [hh]
                  obtain ⟨hv4, hv2⟩ := esc_next v d n hv hd16
                  have hor := shl_or v d hv4 hd16
                  simp only [hh] at cI
                  have HN := Lib.hid hnx
                  have HV := Lib.hid hv2
                  clear hnx hdrop hi hcs hh hv hcr HD hv2
                  go_wp2_with fail
                  refine (cI _).mono ?_
                  rintro e w4 ⟨rfl, rfl⟩
                  go_wp2_with fail
                  go_roundg n
                  case measure => omega
                  case rel => exact ⟨k + 1, v * 16 + d, by omega, by go_num, by go_num, HN, HV.out, rfl⟩
        · simp only [h117, decide_false] at c3
          rw [if_neg (fun h : b.toNat = 117 => h117 (UInt8.toNat_inj.1 h))] at hO
          subst hO
          clear hb1 h117 h34 h92
          go_enter Tryz.func89, Tryz.ntmps89
          go_wp2_with fail
          refine (c1 _).mono ?_
          rintro e w1 ⟨rfl, rfl⟩
          go_wp2_with fail
          refine (c2 _).mono ?_
          rintro e w2 ⟨rfl, rfl⟩
          go_wp2_with fail
          refine (c3 _).mono ?_
          rintro e w3 ⟨rfl, rfl⟩
          go_wp2_with fail
          go_ret2
          exact ⟨rfl, Below.refl _ _⟩
end
/- Plain mathematics: a text's pieces read one behind the other, what an escape takes in passed by; how far one is. No program stands in this text. -/
section
open Go.RowKit

/-- m pieces are to be passed by. -/
def Skip (Y : List Pc) (pos next m : Nat) : Prop := m ≤ Y.length ∧ ((m = 0 ∧ next ≤ pos) ∨ (0 < m ∧ next = pos + (flat (Y.take m)).length))
theorem Skip.zero {Y : List Pc} {pos next : Nat} (h : next ≤ pos) : Skip Y pos next 0 := ⟨Nat.zero_le _, .inl ⟨rfl, h⟩⟩
theorem Skip.none {Y : List Pc} {pos next m : Nat} (h : Skip Y pos next m) (hY : ∀ y ∈ Y, Fit y) (hn : ¬ pos < next) : m = 0 := by
  obtain ⟨h1, ⟨h2, _⟩ | ⟨h2, h3⟩⟩ := h
  · exact h2
  · cases Y with
    | nil => simp at h1; omega
    | cons y Y =>
      obtain ⟨k, rfl⟩ : ∃ k, m = k + 1 := ⟨m - 1, by omega⟩
      rw [List.take_succ_cons, flat_cons, List.length_append] at h3
      have := (hY y (by simp)).pos
      omega
theorem Skip.step {y : Pc} {Y : List Pc} {pos next m : Nat} (h : Skip (y :: Y) pos next m) (hn : pos < next) : ∃ k, m = k + 1 ∧ Skip Y (pos + y.2.length) next k := by
  obtain ⟨h1, ⟨h2, h3⟩ | ⟨h2, h3⟩⟩ := h
  · omega
  · refine ⟨m - 1, by omega, ?_⟩
    obtain ⟨k, rfl⟩ : ∃ k, m = k + 1 := ⟨m - 1, by omega⟩
    rw [Nat.add_sub_cancel]
    simp only [List.length_cons] at h1
    rw [List.take_succ_cons, flat_cons, List.length_append] at h3
    refine ⟨by omega, ?_⟩
    cases k with
    | zero =>
      rw [List.take_zero, flat_nil] at h3
      exact .inl ⟨rfl, by simp only [List.length_nil] at h3; omega⟩
    | succ k => exact .inr ⟨by omega, by omega⟩

abbrev TextZ := Option (List Nat × Nat)
def TextGood (Z : TextZ) (C Y : List Pc) (pos next : Nat) (acc : List UInt8) : Prop :=
  ∃ m Rs k, Skip Y pos next m ∧ acc = encs Rs ∧ (∀ r ∈ Rs, Scalar ((r : Nat) : Int)) ∧ Z = textF (Y.drop m) Rs k ∧ k + 1 = C.length + m ∧ (∀ y ∈ C, ¬ bad y) ∧ (∀ y ∈ Y.take m, ¬ bad y)
def TextBad (Z : TextZ) (C : List Pc) : Prop := (∃ y ∈ C, bad y) ∧ Z = none
/-- How far a text is read. -/
def TextAt (t : ByteArray) (P : List Pc) (Z : TextZ) (pos : Nat) (C Y : List Pc) (next : Nat) (acc : List UInt8) : Prop :=
  At t P pos C Y ∧ acc.length ≤ 4 * pos ∧ (TextGood Z C Y pos next acc ∨ TextBad Z C)
section
variable {t : ByteArray} {P : List Pc} {Z : TextZ} {pos next : Nat} {C Y : List Pc} {x : Pc} {acc : List UInt8}
theorem At.fitC (h : At t P pos C Y) (hP : Pcd P) : ∀ y ∈ C, Fit y := fun y hy => hP.fit y (by rw [← h.1]; simp [hy])
theorem At.fitY (h : At t P pos C Y) (hP : Pcd P) : ∀ y ∈ Y, Fit y := fun y hy => hP.fit y (by rw [← h.1]; simp [hy])
theorem TextAt.start {R : List Pc} (h : pcs t.data.toList = x :: R) (hx : x.1 = 34) : TextAt t (x :: R) (textF R [] 0) 0 [] (x :: R) 1 [] := by
  have hP : Pcd (x :: R) := h ▸ Pcd.of _
  refine ⟨At.start t _ h, Nat.le_refl _, .inl ⟨1, [], 0, ⟨by simp, .inr ⟨by decide, ?_⟩⟩, rfl, (fun r hr => by cases hr), rfl, rfl, (fun y hy => by cases hy), ?_⟩⟩
  · rw [List.take_succ_cons, List.take_zero, flat_cons, flat_nil, List.append_nil, hP.head.len (by omega)]
  · intro y hy hb
    simp only [List.take_succ_cons, List.take_zero, List.mem_singleton] at hy
    subst hy
    have := hb.1; omega
/-- One piece further. -/
theorem At.one (h : At t P pos C (x :: Y)) (hP : Pcd P) : At t P (pos + x.2.length) (C ++ [x]) Y := by
  obtain ⟨h1, h2, h3, h4⟩ := h
  have hF : Fit x := hP.fit x (by rw [← h1]; simp)
  have hne : t.data.toList.drop pos ≠ [] := by intro e; rw [e, pcs_nil] at h2; cases h2
  have hw := Lib.decodeL_le _ hne
  have h2' := h2
  rw [pcs_step _ hne] at h2
  injection h2 with h5 h6
  have hxl : x.2.length = (Lib.decodeL (t.data.toList.drop pos)).2 := by
    rw [← h5]; dsimp only; rw [List.length_take, Nat.min_eq_left hw]
  rw [List.length_drop, size_list] at hw
  refine ⟨by rw [List.append_assoc, ← h1]; rfl, ?_, ?_, by omega⟩
  · rw [← h6, List.drop_drop, hxl]
  · rw [flat_append, List.length_append, h3, flat_cons, flat_nil, List.append_nil]
theorem TextAt.skip (h : TextAt t P Z pos C (x :: Y) next acc) (hP : Pcd P) (hn : pos < next) : TextAt t P Z (pos + x.2.length) (C ++ [x]) Y next acc := by
  obtain ⟨hA, hl, h⟩ := h
  refine ⟨hA.one hP, by omega, ?_⟩
  rcases h with ⟨m, Rs, k, h1, h2, h3, h4, h5, h6, h7⟩ | ⟨⟨y, hy, hb⟩, h2⟩
  · obtain ⟨m, rfl, hS⟩ := h1.step hn
    rw [List.take_succ_cons] at h7
    refine .inl ⟨m, Rs, k, hS, h2, h3, h4, by rw [List.length_append, List.length_singleton]; omega, ?_, fun y hy => h7 y (by simp [hy])⟩
    intro y hy
    rcases List.mem_append.1 hy with hy | hy
    · exact h6 y hy
    · simp only [List.mem_singleton] at hy
      subst hy; exact h7 _ (by simp)
  · exact .inr ⟨⟨y, by simp [hy], hb⟩, h2⟩
theorem TextAt.ctrl (h : TextAt t P Z pos C (x :: Y) next acc) (hP : Pcd P) (hn : ¬ pos < next) (hc : Ctrl x.1) : Z = none := by
  obtain ⟨hA, hl, h⟩ := h
  rcases h with ⟨m, Rs, k, h1, h2, h3, h4, h5, h6, h7⟩ | ⟨_, h2⟩
  · obtain rfl := h1.none (hA.fitY hP) hn
    rw [h4, List.drop_zero, textF_cons, if_pos (.inr hc)]
  · exact h2
theorem TextAt.noEsc (h : TextAt t P Z pos C (x :: Y) next acc) (hP : Pcd P) (hn : ¬ pos < next) (hx : x.1 = 92) (he : escF Y = none) : Z = none := by
  obtain ⟨hA, hl, h⟩ := h
  rcases h with ⟨m, Rs, k, h1, h2, h3, h4, h5, h6, h7⟩ | ⟨_, h2⟩
  · obtain rfl := h1.none (hA.fitY hP) hn
    rw [h4, List.drop_zero, textF_cons]
    have n1 : ¬ x.1 = 34 := by omega
    by_cases hbc : bad x ∨ Ctrl x.1
    · rw [if_pos hbc]
    · rw [if_neg hbc, if_neg n1, if_pos hx, he]
  · exact h2
theorem TextAt.esc (h : TextAt t P Z pos C (x :: Y) next acc) (hP : Pcd P) (hn : ¬ pos < next) (hx : x.1 = 92) {r m : Nat} (he : escF Y = some (r, m)) :
    TextAt t P Z (pos + x.2.length) (C ++ [x]) Y (pos + (m + 1)) (acc ++ Lib.encodeRune (r : Int)) := by
  obtain ⟨hA, hl, h⟩ := h
  have hFx : Fit x := hA.fitY hP x (by simp)
  have hFY : ∀ y ∈ Y, Fit y := fun y hy => hA.fitY hP y (by simp [hy])
  have hx1 := hFx.len (by omega)
  obtain ⟨e1, e2, e3, e4, e5⟩ := escF_len he
  have hfl := flat_ascii hFY e2 e3
  have h4 := enc_four r
  refine ⟨hA.one hP, by rw [List.length_append]; omega, ?_⟩
  rcases h with ⟨m0, Rs, k, h1, h2, h3, h4, h5, h6, h7⟩ | ⟨⟨y, hy, hb⟩, h2⟩
  · obtain rfl := h1.none (hA.fitY hP) hn
    refine .inl ⟨m, Rs ++ [r], k + 1 + m, ⟨e2, .inr ⟨e1, by omega⟩⟩, by rw [encs_snoc, h2], ?_, ?_, by rw [List.length_append, List.length_singleton]; omega, ?_, ?_⟩
    · intro q hq
      rcases List.mem_append.1 hq with hq | hq
      · exact h3 q hq
      · simp only [List.mem_singleton] at hq
        subst hq; exact e4
    · rw [h4, List.drop_zero, textF_cons, if_neg, if_neg (by omega), if_pos hx, he]
      rintro (hb | hc)
      · have := hb.1; omega
      · unfold Ctrl at hc; omega
    · intro y hy hb
      rcases List.mem_append.1 hy with hy | hy
      · exact h6 y hy hb
      · simp only [List.mem_singleton] at hy
        subst hy
        have := hb.1; omega
    · intro y hy hb
      have := e3 y hy
      have := hb.1; omega
  · exact .inr ⟨⟨y, by simp [hy], hb⟩, h2⟩
theorem TextAt.plain (h : TextAt t P Z pos C (x :: Y) next acc) (hP : Pcd P) (hn : ¬ pos < next) (h34 : x.1 ≠ 34) (h92 : x.1 ≠ 92) (hc : ¬ Ctrl x.1) :
    TextAt t P Z (pos + x.2.length) (C ++ [x]) Y next (acc ++ Lib.encodeRune (x.1 : Int)) := by
  obtain ⟨hA, hl, h⟩ := h
  have hFx : Fit x := hA.fitY hP x (by simp)
  have h4 := enc_four x.1
  have hp := hFx.pos
  refine ⟨hA.one hP, by rw [List.length_append]; omega, ?_⟩
  rcases h with ⟨m0, Rs, k, h1, h2, h3, h4, h5, h6, h7⟩ | ⟨⟨y, hy, hb⟩, h2⟩
  · obtain rfl := h1.none (hA.fitY hP) hn
    rw [List.drop_zero, textF_cons] at h4
    by_cases hb : bad x
    · rw [if_pos (.inl hb)] at h4
      exact .inr ⟨⟨x, by simp, hb⟩, h4⟩
    · rw [if_neg (fun h => h.elim hb hc), if_neg h34, if_neg h92] at h4
      refine .inl ⟨0, Rs ++ [x.1], k + 1, Skip.zero ?_, by rw [encs_snoc, h2], ?_, by rw [List.drop_zero]; exact h4, by rw [List.length_append, List.length_singleton]; omega, ?_, (fun y hy => by cases hy)⟩
      · omega
      · intro q hq
        rcases List.mem_append.1 hq with hq | hq
        · exact h3 q hq
        · simp only [List.mem_singleton] at hq
          subst hq; exact hFx.sc
      · intro y hy
        rcases List.mem_append.1 hy with hy | hy
        · exact h6 y hy
        · simp only [List.mem_singleton] at hy
          subst hy; exact hb
  · exact .inr ⟨⟨y, by simp [hy], hb⟩, h2⟩
theorem TextAt.over (h : TextAt t P Z pos C [] next acc) : Z = none := by
  obtain ⟨hA, hl, h⟩ := h
  rcases h with ⟨m, Rs, k, h1, h2, h3, h4, h5, h6, h7⟩ | ⟨_, h2⟩
  · rw [h4, List.drop_nil, textF_nil]
  · exact h2
theorem At.part (h : At t P pos C Y) (hP : pcs t.data.toList = P) : (t.extract 0 pos).data.toList = flat C ∧ pos ≤ t.size ∧ Pcd C := by
  have h1 := h.1
  have hpre : C <+: P := ⟨Y, h1⟩
  have := flat_pre hP hpre
  rw [h.2.2.1] at this
  refine ⟨this.2, this.1, ?_⟩
  have hPc : Pcd P := hP ▸ Pcd.of _
  have := hPc.take C.length
  rwa [← h1, List.take_left] at this
theorem TextAt.quote (h : TextAt t P Z pos C (x :: Y) next acc) (hP : pcs t.data.toList = P) (hn : ¬ pos < next) (hx : x.1 = 34) :
    (validL (t.extract 0 pos).data.toList = true ∧ 0 < pos ∧ ∃ Rs k, Z = some (Rs, k) ∧ acc = encs Rs ∧ countL acc = Rs.length ∧ (flat (P.take (k + 2))).length = pos + 1) ∨ (validL (t.extract 0 pos).data.toList = false ∧ 0 < pos ∧ Z = none) := by
  obtain ⟨hA, hl, h⟩ := h
  have hPc : Pcd P := hP ▸ Pcd.of _
  obtain ⟨e1, e2, e3⟩ := hA.part hP
  have hv : validL (t.extract 0 pos).data.toList = C.all (fun y => !decide (bad y)) := by
    unfold validL; rw [e1]; unfold Pcd at e3; rw [e3]
  have hFx : Fit x := hA.fitY hPc x (by simp)
  rw [hv]
  rcases h with ⟨m, Rs, k, h1, h2, h3, h4, h5, h6, h7⟩ | ⟨⟨y, hy, hb⟩, h2⟩
  · obtain rfl := h1.none (hA.fitY hPc) hn
    refine .inl ⟨List.all_eq_true.2 (fun y hy => by simp [h6 y hy]), ?_, Rs, k, ?_, h2, by rw [h2, count_encs Rs h3], ?_⟩
    · have := flat_len (hA.fitC hPc)
      rw [hA.2.2.1] at this; omega
    · rw [h4, List.drop_zero, textF_cons, if_neg, if_pos hx]
      rintro (hb | hc)
      · have := hb.1; omega
      · unfold Ctrl at hc; omega
    · have e : P.take (k + 2) = C ++ [x] := by
        rw [← hA.1, show k + 2 = C.length + 1 by omega, List.take_length_add_append]; rfl
      rw [e, flat_append, List.length_append, hA.2.2.1, flat_cons, flat_nil, List.append_nil, hFx.len (by omega)]
  · refine .inr ⟨List.all_eq_false.2 ⟨y, hy, by simp [hb]⟩, ?_, h2⟩
    have := flat_len (hA.fitC hPc)
    have h3 := List.length_pos_of_mem hy
    rw [hA.2.2.1] at this; omega
end
end
/- The contract of lex.text: the text that stands behind a quote, or that there is none. -/
section
open Go.RowKit

/-- What is told of a text. -/
def textO (Z : TextZ) : Option Fd :=
  match Z with
  | none => none
  | some (Rs, k) => if Rs.length ≤ 100 then some ⟨2, encs Rs, 0, k + 1⟩ else none
theorem textT_eq (R : List Pc) : textT R = textO (textF R [] 0) := rfl
def TRel (t : ByteArray) (w0 : World) (K : Nat) (pos : Nat) (acc : List UInt8) (wr : World) : Prop :=
  Lib.IsBuilderF 113 5 w0.heap.size w0.heap.size (Lib.byteCells acc) wr ∧ wr.heap[K]? = some (.stringIter t pos) ∧ Below w0.heap.size w0 wr

set_option maxHeartbeats 4000000 in
set_option maxRecDepth 100000 in
theorem text_any (t : ByteArray) (x : Pc) (R : List Pc) (w : World) (hs : t.size ≤ 1000) (h : pcs t.data.toList = x :: R) (hx : x.1 = 34) (hT : Tabs w) :
    Calls Tryz.prog 77 #[.string t] w (Told x R (textT R) w) := by
  have hPc : Pcd (x :: R) := h ▸ Pcd.of _
  have hst := TextAt.start h hx
  obtain ⟨Z, hZ⟩ : ∃ Z, textF R [] 0 = Z := ⟨_, rfl⟩
  rw [hZ] at hst
  rw [textT_eq, hZ]
  obtain ⟨P, hPe⟩ : ∃ P, x :: R = P := ⟨_, rfl⟩
  have htk : ∀ k, x :: R.take (k + 1) = P.take (k + 2) := fun k => by rw [← hPe]; rfl
  rw [hPe] at hst hPc h
  have hnone : Z = none → toldV x R (textO Z) = .tuple #[T4 0 ⟨#[]⟩ 0 0, .int .i64 0] := fun h => by rw [h]; rfl
  have hlong : ∀ Rs k, Z = some (Rs, k) → ¬ Rs.length ≤ 100 → toldV x R (textO Z) = .tuple #[T4 0 ⟨#[]⟩ 0 0, .int .i64 0] := fun Rs k h h2 => by
    rw [h]; unfold textO; dsimp only; rw [if_neg h2]; rfl
  have hsome : ∀ Rs k n, Z = some (Rs, k) → Rs.length ≤ 100 → (flat (P.take (k + 2))).length = n + 1 → toldV x R (textO Z) = .tuple #[T4 2 ⟨(encs Rs).toArray⟩ 0 0, .int .i64 ((n : Int) + 1)] := fun Rs k n h h2 h3 => by
    rw [h]; unfold textO; dsimp only; rw [if_pos h2]; unfold toldV; dsimp only; rw [htk k, h3]; rfl
  have hb0 := below_alloc w (.cells #[.int .i64 0, .string ⟨#[]⟩, .int .i64 0, .int .i64 0] 71)
  have hF := four_new w (.int .i64 0) (.string ⟨#[]⟩) (.int .i64 0) (.int .i64 0) 71
  have hW0 : w.heap.size < (w.alloc (.cells #[.int .i64 0, .string ⟨#[]⟩, .int .i64 0, .int .i64 0] 71)).heap.size := by rw [alloc_size]; omega
  obtain ⟨w0, hw0⟩ : ∃ w0, w.alloc (.cells #[.int .i64 0, .string ⟨#[]⟩, .int .i64 0, .int .i64 0] 71) = w0 := ⟨_, rfl⟩
  rw [hw0] at hb0 hF hW0
  have hB := Lib.IsBuilderF.of (Lib.fresh_isBuilder 113 5 w0)
  have hb1 := below_alloc w0 (.cells #[.pointer none, .slice none 0 0] 113)
  have hW1 : w0.heap.size < (w0.alloc (.cells #[.pointer none, .slice none 0 0] 113)).heap.size := by rw [alloc_size]; omega
  obtain ⟨w1, hw1⟩ : ∃ w1, w0.alloc (.cells #[.pointer none, .slice none 0 0] 113) = w1 := ⟨_, rfl⟩
  rw [hw1] at hB hb1 hW1
  have hR0 : TRel t w0 w1.heap.size 0 [] (w1.iter t 0) := ⟨Lib.IsBuilderF.alloc hB _, World.iter_heap w1 t 0, hb1.alloc (by omega) _⟩
  have hend : ∀ w2, Below w0.heap.size w0 w2 → Four w2 w.heap.size (.int .i64 0) (.string ⟨#[]⟩) (.int .i64 0) (.int .i64 0) ∧ Below w.heap.size w w2 ∧ Tabs w2 := fun w2 hb => ⟨hF.later hb, below_to hb0 hb, hT.later (below_to hb0 hb)⟩
  have HST := Lib.hid hst
  have HP := Lib.hid h
  have HPC := Lib.hid hPc
  have HR0 := Lib.hid hR0
  have HE := Lib.hid hend
  have HN := Lib.hid hnone
  have HL := Lib.hid hlong
  have HS := Lib.hid hsome
  obtain ⟨O, hO⟩ : ∃ O, toldV x R (textO Z) = O := ⟨_, rfl⟩
  unfold Told
  rw [hO]
  have HO := Lib.hid hO
  clear hst h hPc hR0 hend hnone hlong hsome htk hO hB hb0 hb1 hF hPe hZ hx hT
  go_enter Tryz.func77, Tryz.ntmps77
  go_wp2
  go_step3
  go_wp2
  go_step3
  go_wp2
  go_loopg [5, 6] (P.length) (fun n s5 s6 wr => ∃ pos C Y next acc, Hid (TextAt t P Z pos C Y next acc) ∧ Hid (TRel t w0 w1.heap.size pos acc wr) ∧ Y.length = n ∧ pos ≤ t.size ∧ next ≤ 2000 ∧ s5 = .int .i64 (next : Int) ∧ s6 = .int .i64 0)
  case atStart => exact ⟨0, [], P, 1, [], HST, HR0, rfl, Nat.zero_le _, by decide, rfl, rfl⟩
  case round =>
    obtain ⟨pos, C, Y, next, acc, HA, HR, hn, hps, hnx0, rfl, rfl⟩ := hrel
    have hal := HA.out.2.1
    have hit := HR.out.2.1
    have hsz := (Array.getElem?_eq_some_iff.1 hit).1
    clear HST HR0
    by_cases hp : pos < t.size
    · have hnx : ∀ ty, (Instr.next (.pointer (some ⟨w1.heap.size, 0, none⟩)) true ty).run Tryz.prog wr = _ := fun ty => Lib.run_next_any_at wr w1.heap.size t pos ty hit hp
      obtain ⟨hI, -, hbw⟩ := HR.out
      obtain ⟨hwd1, hwd2⟩ := width_in t pos hp
      have hr := Lib.rune_le t pos
      have hI2 := hI.iterAt hit (pos + (Utf8.decode t pos).2)
      have hit2 := Lib.iterAt_heap wr w1.heap.size t pos (pos + (Utf8.decode t pos).2) hit
      have hbw2 := Lib.below_iterAt hbw (k := w1.heap.size) (by omega) t (pos + (Utf8.decode t pos).2)
      have hsz2 : w0.heap.size ≤ (wr.iterAt w1.heap.size t (pos + (Utf8.decode t pos).2)).heap.size := by rw [Lib.iterAt_size]; omega
      have hR2 : TRel t w0 w1.heap.size (pos + (Utf8.decode t pos).2) acc (wr.iterAt w1.heap.size t (pos + (Utf8.decode t pos).2)) := ⟨hI2, hit2, hbw2⟩
      obtain ⟨y, Y2, hY, hy1, hy2, -⟩ := HA.out.1.next hp
      subst hY
      simp only [List.length_cons] at hn
      have HR2 := Lib.hid hR2
      have HY1 := Lib.hid hy1
      have HY2 := Lib.hid hy2
      clear hI hbw hit hR2 hy1 hy2 HR
      by_cases hlt : pos < next
      · have hltz : (pos : Int) < (next : Int) := by omega
        have hA2 := HA.out.skip HPC.out hlt
        rw [HY2.out] at hA2
        have HA2 := Lib.hid hA2
        clear hI2 hit2 hbw2 hA2
        go_wp2_with fail
        go_roundg Y2.length
        case measure => omega
        case rel => exact ⟨_, _, Y2, next, acc, HA2, HR2, rfl, by omega, hnx0, rfl, rfl⟩
      · have hltz : ¬ (pos : Int) < (next : Int) := by omega
        obtain ⟨r, hrr⟩ : ∃ r, (Utf8.decode t pos).1 = r := ⟨_, rfl⟩
        have hyr : y.1 = r := by rw [HY1.out, hrr]
        rw [hrr] at hnx hr
        have HYR := Lib.hid hyr
        clear hrr hyr HY1
        by_cases h34 : r = 34
        · have t1 : ((r : Int) == 34) = true := by rw [h34]; rfl
          have hq := HA.out.quote HP.out hlt (by rw [HYR.out, h34])
          have hpz : ((pos : Int) ≤ (t.size : Int)) := by omega
          have cV := fun w hT => valid_any (t.extract 0 pos) w (by have := Lib.size_eq (t.extract 0 pos); rw [(HA.out.1.part HP.out).1] at this; have h3 := HA.out.1.2.2.1; omega) hT
          rcases hq with ⟨hv, hpos, Rs, k, hZ, hacc, hcnt, hfl⟩ | ⟨hv, hpos, hZ⟩
          · have hp0 : ((pos : Int) == 0) = false := beq_eq_false_iff_ne.2 (by omega)
            obtain ⟨-, -, hT2⟩ := HE.out _ hbw2
            have cS := fun w h hb => bString w0.heap.size w0.heap.size acc w h hb
            have cN := fun w => count_any ⟨acc.toArray⟩ w (by show acc.toArray.size < _; rw [List.size_toArray]; omega)
            rw [runeCount_eq] at cN
            simp only [hcnt] at cN
            have HZ := Lib.hid hZ
            have HAC := Lib.hid hacc
            have HFL := Lib.hid hfl
            simp only [hv] at cV
            clear hv hZ hacc hcnt hfl h34 HR2 hit2
            go_wp2_with fail
            refine (cV _ hT2).mono ?_
            rintro e wa ⟨rfl, ba⟩
            have hIa := builder_later hI2 ba
            have hbwa := hbw2.trans (ba.mono hsz2)
            clear cV hI2 hbw2 ba hT2
            go_wp2_with fail
            refine (cS _ hIa hbwa.size).mono ?_
            rintro e wb ⟨rfl, hIb, bb, -⟩
            have hbwb := hbwa.trans bb
            clear hIa hbwa bb
            go_wp2_with fail
            refine (cN _).mono ?_
            rintro e wc ⟨rfl, bc⟩
            have hIc := builder_later hIb bc
            have hbwc := hbwb.trans (bc.mono hbwb.size)
            clear hIb hbwb bc cN
            by_cases h100 : Rs.length ≤ 100
            · have h100z : ¬ (100 : Int) < (Rs.length : Int) := by omega
              go_wp2_with fail
              refine (cS _ hIc hbwc.size).mono ?_
              rintro e wd ⟨rfl, -, bd, -⟩
              obtain ⟨⟨-, z0, z1, z2, z3, f0, f1, f2, f3⟩, hbz, -⟩ := HE.out _ (hbwc.trans bd)
              clear hIc hbwc bd cS
              have hfin := HS.out Rs k pos HZ.out h100 HFL.out
              rw [← HAC.out] at hfin
              have HF := Lib.hid hfin
              clear hfin
              go_wp2_with fail
              rw [Exit.noGoto_ret]
              exact bodyPost_ret (v := .tuple #[T4 2 ⟨acc.toArray⟩ 0 0, .int .i64 ((pos : Int) + 1)]) (by simp [results, Tryz.results77, go_sem, z0, z1, z2, z3]) rfl ⟨by rw [← HO.out, HF.out], below_four hbz (Nat.le_refl _) _ _ _ _⟩
            · have h100z : (100 : Int) < (Rs.length : Int) := by omega
              obtain ⟨⟨-, z0, z1, z2, z3, f0, f1, f2, f3⟩, hbz, -⟩ := HE.out _ hbwc
              have hfin := HL.out Rs k HZ.out h100
              have HF := Lib.hid hfin
              clear hfin hIc hbwc cS
              go_wp2_with fail
              rw [Exit.noGoto_ret]
              exact bodyPost_ret (v := .tuple #[T4 0 ⟨#[]⟩ 0 0, .int .i64 0]) (by simp [results, Tryz.results77, go_sem, z0, z1, z2, z3]) rfl ⟨by rw [← HO.out, HF.out], below_four hbz (Nat.le_refl _) _ _ _ _⟩
          · have hfin := HN.out hZ
            have HF := Lib.hid hfin
            obtain ⟨-, -, hT2⟩ := HE.out _ hbw2
            simp only [hv] at cV
            clear hv hZ hfin h34 HR2 hit2 hI2
            have hp0 : ((pos : Int) == 0) = false := beq_eq_false_iff_ne.2 (by omega)
            go_wp2_with fail
            refine (cV _ hT2).mono ?_
            rintro e wa ⟨rfl, ba⟩
            obtain ⟨⟨-, z0, z1, z2, z3, f0, f1, f2, f3⟩, hbz, -⟩ := HE.out _ (hbw2.trans (ba.mono hsz2))
            clear cV hbw2 ba hT2
            go_wp2_with fail
            rw [Exit.noGoto_ret]
            exact bodyPost_ret (v := .tuple #[T4 0 ⟨#[]⟩ 0 0, .int .i64 0]) (by simp [results, Tryz.results77, go_sem, z0, z1, z2, z3]) rfl ⟨by rw [← HO.out, HF.out], below_four hbz (Nat.le_refl _) _ _ _ _⟩
        · have t1 : ((r : Int) == 34) = false := beq_eq_false_iff_ne.2 (by omega)
          have cC := fun w => control_any r w
          by_cases hc : Ctrl r
          · simp only [hc, decide_true] at cC
            have hfin := HN.out (HA.out.ctrl HPC.out hlt (by rw [HYR.out]; exact hc))
            have HF := Lib.hid hfin
            obtain ⟨⟨-, z0, z1, z2, z3, f0, f1, f2, f3⟩, hbz, -⟩ := HE.out _ hbw2
            clear hfin hc HR2 hit2 hI2 hbw2
            go_wp2_with fail
            refine (cC _).mono ?_
            rintro e wa ⟨rfl, rfl⟩
            go_wp2_with fail
            rw [Exit.noGoto_ret]
            exact bodyPost_ret (v := .tuple #[T4 0 ⟨#[]⟩ 0 0, .int .i64 0]) (by simp [results, Tryz.results77, go_sem, z0, z1, z2, z3]) rfl ⟨by rw [← HO.out, HF.out], below_four hbz (Nat.le_refl _) _ _ _ _⟩
          · simp only [hc, decide_false] at cC
            by_cases h92 : r = 92
            · have t2 : ((r : Int) == 92) = true := by rw [h92]; rfl
              obtain ⟨hl92, hY2c⟩ := head_asc (l := t.data.toList.drop pos) (x := y) (R := Y2) HA.out.1.2.1 (by rw [HYR.out]; omega)
              rw [HYR.out, h92] at hl92
              have hxt : (t.extract pos t.size).data.toList = 92 :: flat Y2 := by rw [tailList, hl92]; rfl
              have cE := fun w => escaped_any (t.extract pos t.size) (flat Y2) w (by have := Lib.size_eq (t.extract pos t.size); rw [tailList, List.length_drop, size_list] at this; omega) hxt
              rw [← esc_bytes, hY2c] at cE
              have hpz : ((pos : Int) ≤ (t.size : Int)) := by omega
              cases he : escF Y2 with
              | none =>
                rw [he] at cE
                unfold escV at cE
                have hfin := HN.out (HA.out.noEsc HPC.out hlt (by rw [HYR.out, h92]) he)
                have HF := Lib.hid hfin
                clear hfin hc HR2 hit2 hI2 he hl92 hY2c hxt h92
                go_wp2_with fail
                refine (cC _).mono ?_
                rintro e wa ⟨rfl, rfl⟩
                go_wp2_with fail
                refine (cE _).mono ?_
                rintro e wb ⟨rfl, bb⟩
                obtain ⟨⟨-, z0, z1, z2, z3, f0, f1, f2, f3⟩, hbz, -⟩ := HE.out _ (hbw2.trans (bb.mono hsz2))
                clear bb hbw2 cE
                go_wp2_with fail
                rw [Exit.noGoto_ret]
                exact bodyPost_ret (v := .tuple #[T4 0 ⟨#[]⟩ 0 0, .int .i64 0]) (by simp [results, Tryz.results77, go_sem, z0, z1, z2, z3]) rfl ⟨by rw [← HO.out, HF.out], below_four hbz (Nat.le_refl _) _ _ _ _⟩
              | some q =>
                obtain ⟨q, m⟩ := q
                rw [he] at cE
                unfold escV at cE
                dsimp only at cE
                obtain ⟨em1, em2, em3, em4, em5⟩ := escF_len he
                have hA2 := HA.out.esc HPC.out hlt (by rw [HYR.out, h92]) he
                rw [HY2.out] at hA2
                have hYl : Y2.length ≤ 1000 := by
                  have e1 := flat_len (fun z hz => HA.out.1.fitY HPC.out z (by simp [hz]) : ∀ z ∈ Y2, Fit z)
                  have e2 := congrArg List.length hl92
                  rw [List.length_drop, size_list, List.length_cons] at e2
                  omega
                have HA2 := Lib.hid hA2
                have hm0 : (((m : Int) + 1) == 0) = false := beq_eq_false_iff_ne.2 (by omega)
                clear hc HR2 he hl92 hY2c hxt h92 hA2 em3 em4
                go_wp2_with fail
                refine (cC _).mono ?_
                rintro e wa ⟨rfl, rfl⟩
                go_wp2_with fail
                refine (cE _).mono ?_
                rintro e wb ⟨rfl, bb⟩
                have hI3 := builder_later hI2 bb
                have hit3 := (bb.block w1.heap.size (Array.getElem?_eq_some_iff.1 hit2).1).trans hit2
                have hbw3 := hbw2.trans (bb.mono hsz2)
                have cW := fun w h hb => bWriteRune w0.heap.size w0.heap.size (Lib.byteCells acc) (q : Int) (by omega) (by omega) w h (by rw [Lib.byteCells_length]; omega) hb
                clear hI2 hit2 hbw2 bb cE cC
                go_wp2_with fail
                refine (cW _ hI3 hbw3.size).mono ?_
                rintro e wc ⟨rfl, h4, b4, k4⟩
                have hit4 := k4.iter hit3 (by omega)
                rw [← Lib.byteCells_encodeRune, ← Lib.byteCells_append] at h4
                have hR4 : TRel t w0 w1.heap.size (pos + (Utf8.decode t pos).2) (acc ++ Lib.encodeRune (q : Int)) wc := ⟨Or.inr h4, hit4, hbw3.trans b4⟩
                have HR4 := Lib.hid hR4
                clear cW hI3 hit3 hbw3 h4 b4 k4 hit4 hR4
                go_wp2_with fail
                go_roundg Y2.length
                case measure => omega
                case rel => exact ⟨_, _, Y2, pos + (m + 1), _, HA2, HR4, rfl, by omega, by omega, by go_num, rfl⟩
            · have t2 : ((r : Int) == 92) = false := beq_eq_false_iff_ne.2 (by omega)
              have hA2 := HA.out.plain HPC.out hlt (by rw [HYR.out]; exact h34) (by rw [HYR.out]; exact h92) (by rw [HYR.out]; exact hc)
              rw [HY2.out, HYR.out] at hA2
              have HA2 := Lib.hid hA2
              have cW := fun w h hb => bWriteRune w0.heap.size w0.heap.size (Lib.byteCells acc) (r : Int) (by omega) (by omega) w h (by rw [Lib.byteCells_length]; omega) hb
              clear hA2 hc HR2 h34 h92
              go_wp2_with fail
              refine (cC _).mono ?_
              rintro e wa ⟨rfl, rfl⟩
              go_wp2_with fail
              refine (cW _ hI2 hsz2).mono ?_
              rintro e wc ⟨rfl, h4, b4, k4⟩
              have hit4 := k4.iter hit2 (by omega)
              rw [← Lib.byteCells_encodeRune, ← Lib.byteCells_append] at h4
              have hR4 : TRel t w0 w1.heap.size (pos + (Utf8.decode t pos).2) (acc ++ Lib.encodeRune (r : Int)) wc := ⟨Or.inr h4, hit4, hbw2.trans b4⟩
              have HR4 := Lib.hid hR4
              clear cW hI2 hit2 hbw2 h4 b4 k4 hit4 hR4 cC
              go_wp2_with fail
              go_roundg Y2.length
              case measure => omega
              case rel => exact ⟨_, _, Y2, next, _, HA2, HR4, rfl, by omega, hnx0, rfl, rfl⟩
    · have hnx : ∀ ty, (Instr.next (.pointer (some ⟨w1.heap.size, 0, none⟩)) true ty).run Tryz.prog wr = _ := fun ty => Lib.run_next_end_at wr w1.heap.size t pos ty hit hp
      obtain ⟨hY, -, -⟩ := HA.out.1.done hp
      subst hY
      have hfin := HN.out HA.out.over
      have HF := Lib.hid hfin
      obtain ⟨⟨-, z0, z1, z2, z3, f0, f1, f2, f3⟩, hbz, -⟩ := HE.out _ HR.out.2.2
      clear hfin hit
      go_wp2_with fail
      rw [Exit.noGoto_ret]
      exact bodyPost_ret (v := .tuple #[T4 0 ⟨#[]⟩ 0 0, .int .i64 0]) (by simp [results, Tryz.results77, go_sem, z0, z1, z2, z3]) rfl ⟨by rw [← HO.out, HF.out], below_four hbz (Nat.le_refl _) _ _ _ _⟩
end
/- The contract of lex.other: a text, or a sign. -/
section
open Go.RowKit

set_option maxHeartbeats 1000000 in
set_option maxRecDepth 100000 in
theorem other_any (t : ByteArray) (x : Pc) (R : List Pc) (w : World) (hs : t.size ≤ 1000) (h : pcs t.data.toList = x :: R) (hT : Tabs w) :
    Calls Tryz.prog 63 #[.string t] w (Told x R (if x.1 = 34 then textT R else signF x R) w) := by
  have hne : t.data.toList ≠ [] := by intro e; rw [e, pcs_nil] at h; cases h
  have hlt : 0 < t.size := by rw [← size_list]; exact List.length_pos_iff.2 hne
  have hltz : (0 : Int) < (t.size : Int) := by omega
  have hb0 := below_alloc w (.cells #[.int .i64 0, .string ⟨#[]⟩, .int .i64 0, .int .i64 0] 71)
  have hF := four_new w (.int .i64 0) (.string ⟨#[]⟩) (.int .i64 0) (.int .i64 0) 71
  obtain ⟨w0, hw0⟩ : ∃ w0, w.alloc (.cells #[.int .i64 0, .string ⟨#[]⟩, .int .i64 0, .int .i64 0] 71) = w0 := ⟨_, rfl⟩
  rw [hw0] at hb0 hF
  have hT0 := hT.later hb0
  obtain ⟨b, r, hl, hbb⟩ := head_byte h
  have hb : t[0] = b := by
    have : t.data.toList[0]? = some t[0] := by rw [List.getElem?_eq_getElem (by rw [size_list]; exact hlt)]; rfl
    rw [hl] at this
    injection this with this; exact this.symm
  by_cases h34 : x.1 = 34
  · rw [if_pos h34]
    have cT := text_any t x R w0 hs h h34 hT0
    have t1 : ((t[0].toNat : Int) == 34) = true := by
      rcases hbb with ⟨_, e, _⟩ | ⟨_, e⟩
      · rw [hb, ← e, h34]; rfl
      · omega
    generalize textT R = O at cT ⊢
    unfold Told at cT ⊢
    cases O with
    | none =>
      unfold toldV at cT ⊢
      clear hl hbb hb h34 h hne hT hT0
      go_enter Tryz.func63, Tryz.ntmps63
      go_wp2_with fail
      refine cT.mono ?_
      rintro e w1 ⟨rfl, b1⟩
      obtain ⟨-, z0, z1, z2, z3, f0, f1, f2, f3⟩ := hF.later b1
      have hb3 := below_to hb0 b1
      clear cT hw0 hF b1 hb0
      go_wp2_with fail
      exact bodyPost_ret (v := .tuple #[T4 0 ⟨#[]⟩ 0 0, .int .i64 0]) (by simp [results, Tryz.results63, go_sem, z0, z1, z2, z3]) rfl ⟨rfl, below_four hb3 (Nat.le_refl _) _ _ _ _⟩
    | some f =>
      unfold toldV at cT ⊢
      dsimp only at cT ⊢
      generalize (flat (x :: R.take f.j)).length = n at cT ⊢
      generalize (⟨f.s.toArray⟩ : ByteArray) = S at cT ⊢
      generalize f.k = K at cT ⊢
      generalize f.n = N at cT ⊢
      clear hl hbb hb h34 h hne hT hT0
      go_enter Tryz.func63, Tryz.ntmps63
      go_wp2_with fail
      refine cT.mono ?_
      rintro e w1 ⟨rfl, b1⟩
      obtain ⟨-, z0, z1, z2, z3, f0, f1, f2, f3⟩ := hF.later b1
      have hb3 := below_to hb0 b1
      clear cT hw0 hF b1 hb0
      go_wp2_with fail
      exact bodyPost_ret (v := .tuple #[T4 K S N 0, .int .i64 n]) (by simp [results, Tryz.results63, go_sem, z0, z1, z2, z3]) rfl ⟨rfl, below_four hb3 (Nat.le_refl _) _ _ _ _⟩
  · rw [if_neg h34]
    have t1 : ((t[0].toNat : Int) == 34) = false := by
      refine beq_eq_false_iff_ne.2 ?_
      rcases hbb with ⟨_, e, _⟩ | ⟨e, _⟩
      · rw [hb, ← e]; omega
      · rw [hb]; omega
    have cS := fun w => sign_any t w hne (by omega)
    have hsg := sgn_bytes h
    cases hO : signF x R with
    | none =>
      rw [hO] at hsg
      dsimp only at hsg
      simp only [hsg] at cS
      unfold Told toldV
      clear hl hbb hb h34 h hne hT hT0 hO hsg
      go_enter Tryz.func63, Tryz.ntmps63
      go_wp2_with fail
      refine (cS _).mono ?_
      rintro e w1 ⟨rfl, rfl⟩
      obtain ⟨-, z0, z1, z2, z3, f0, f1, f2, f3⟩ := hF
      clear cS hw0
      go_wp2_with fail
      exact bodyPost_ret (v := .tuple #[T4 0 ⟨#[]⟩ 0 0, .int .i64 0]) (by simp [results, Tryz.results63, go_sem, z0, z1, z2, z3]) rfl ⟨rfl, below_four hb0 (Nat.le_refl _) _ _ _ _⟩
    | some f =>
      rw [hO] at hsg
      dsimp only at hsg
      obtain ⟨e1, e2, e3, e4, e5, e6, e7⟩ := hsg
      have hn : f.j + 1 ≤ t.size := by
        have h1 := flat_pcs t.data.toList
        rw [h] at h1
        have h2 := flat_take_drop (x :: R) (f.j + 1)
        have h3 := congrArg List.length h2
        rw [h1, List.length_append, size_list, List.take_succ_cons, e6] at h3
        omega
      obtain ⟨S, hS⟩ : ∃ S : ByteArray, (⟨f.s.toArray⟩ : ByteArray) = S := ⟨_, rfl⟩
      have hx : t.extract 0 (f.j + 1) = S := by
        rw [← hS]
        apply ByteArray.ext; apply Array.toList_inj.1
        rw [Lib.extract_data, List.drop_zero, Nat.sub_zero, e4]
      have cC := fun w => clone_any (t.extract 0 (f.j + 1)) w (by
        have := Lib.size_eq (t.extract 0 (f.j + 1)); rw [Lib.extract_data, List.drop_zero, Nat.sub_zero, List.length_take] at this; omega)
      rw [hx] at cC
      rw [e1] at cS
      unfold Told toldV
      dsimp only
      rw [e2, e3, e6, hS]
      have hnp : 0 < f.j + 1 := Nat.succ_pos _
      generalize f.j + 1 = n at *
      have HX := Lib.hid hx
      have hnz : (n : Int) ≤ (t.size : Int) := by omega
      have hn0 : ((n : Int) == 0) = false := beq_eq_false_iff_ne.2 (by omega)
      clear hl hbb hb h34 h hne hT hT0 hO e1 e2 e3 e4 e5 e6 e7 hS
      go_enter Tryz.func63, Tryz.ntmps63
      go_wp2_with fail
      refine (cS _).mono ?_
      rintro e w1 ⟨rfl, rfl⟩
      clear cS
      go_wp2_with fail
      refine (cC _).mono ?_
      rintro e w2 ⟨rfl, b2⟩
      obtain ⟨-, z0, z1, z2, z3, f0, f1, f2, f3⟩ := hF.later b2
      have hb3 := below_to hb0 b2
      clear cC hw0 hF b2 hb0
      go_wp2_with fail
      exact bodyPost_ret (v := .tuple #[T4 4 S 0 0, .int .i64 n]) (by simp [results, Tryz.results63, go_sem, z0, z1, z2, z3]) rfl ⟨rfl, below_four hb3 (Nat.le_refl _) _ _ _ _⟩
end
/- Plain mathematics: how far a formula is read, piece by piece, token by token; the rows that tokens lie in. -/
section
open Go.RowKit

abbrev LexZ := Except Nat (List Tk)
/-- How far a formula is read. -/
def LexAt (t : ByteArray) (P : List Pc) (Z : LexZ) (pos : Nat) (C Y : List Pc) (next : Nat) (ts : List Tk) : Prop :=
  At t P pos C Y ∧ ∃ m, Skip Y pos next m ∧ ts.length ≤ C.length + m ∧ Z = ahead ts (lexR (Y.drop m) (pos + (flat (Y.take m)).length))
section
variable {t : ByteArray} {P : List Pc} {Z : LexZ} {pos next : Nat} {C Y : List Pc} {x : Pc} {ts : List Tk}
theorem LexAt.start (h : pcs t.data.toList = P) : LexAt t P (lexR P 0) 0 [] P 0 [] :=
  ⟨At.start t P h, 0, Skip.zero (Nat.le_refl _), Nat.le_refl _, by rw [List.drop_zero, List.take_zero, flat_nil, ahead_nil]; rfl⟩
theorem LexAt.skip (h : LexAt t P Z pos C (x :: Y) next ts) (hP : Pcd P) (hn : pos < next) : LexAt t P Z (pos + x.2.length) (C ++ [x]) Y next ts := by
  obtain ⟨hA, m, h1, h2, h3⟩ := h
  obtain ⟨m, rfl, hS⟩ := h1.step hn
  refine ⟨hA.one hP, m, hS, by rw [List.length_append, List.length_singleton]; omega, ?_⟩
  rw [h3, List.drop_succ_cons, List.take_succ_cons, flat_cons, List.length_append, Nat.add_assoc]
theorem LexAt.blank (h : LexAt t P Z pos C (x :: Y) next ts) (hP : Pcd P) (hn : ¬ pos < next) (hc : classZ (x.1 : Int) = 3) : LexAt t P Z (pos + x.2.length) (C ++ [x]) Y next ts := by
  obtain ⟨hA, m, h1, h2, h3⟩ := h
  obtain rfl := h1.none (hA.fitY hP) hn
  refine ⟨hA.one hP, 0, Skip.zero (by omega), by rw [List.length_append, List.length_singleton]; omega, ?_⟩
  rw [h3, List.drop_zero, List.take_zero, flat_nil, lexR_blank x Y _ hc, List.drop_zero, List.take_zero, flat_nil]
  rfl
theorem LexAt.none (h : LexAt t P Z pos C (x :: Y) next ts) (hP : Pcd P) (hn : ¬ pos < next) (hc : classZ (x.1 : Int) ≠ 3) (hf : tokF x Y = none) : Z = .error pos := by
  obtain ⟨hA, m, h1, h2, h3⟩ := h
  obtain rfl := h1.none (hA.fitY hP) hn
  rw [h3, List.drop_zero, List.take_zero, flat_nil, lexR_none x Y _ hc hf]
  rfl
theorem LexAt.some (h : LexAt t P Z pos C (x :: Y) next ts) (hP : Pcd P) (hn : ¬ pos < next) (hc : classZ (x.1 : Int) ≠ 3) {f : Fd} (hf : tokF x Y = some f) :
    LexAt t P Z (pos + x.2.length) (C ++ [x]) Y (pos + (flat (x :: Y.take f.j)).length) (ts ++ [f.tk pos]) := by
  obtain ⟨hA, m, h1, h2, h3⟩ := h
  obtain rfl := h1.none (hA.fitY hP) hn
  have hj := tokF_len hf
  refine ⟨hA.one hP, f.j, ⟨hj, ?_⟩, by simp only [List.length_append, List.length_singleton]; omega, ?_⟩
  · rw [flat_cons, List.length_append]
    rcases Nat.eq_zero_or_pos f.j with h0 | h0
    · rw [h0, List.take_zero, flat_nil]
      exact .inl ⟨rfl, by simp⟩
    · exact .inr ⟨h0, by omega⟩
  · rw [h3, List.drop_zero, List.take_zero, flat_nil, lexR_some x Y _ hc f hf, ahead_ahead, flat_cons, List.length_append]
    show ahead (ts ++ [f.tk (pos + 0)]) _ = _
    rw [Nat.add_zero]
    congr 2
    show pos + 0 + _ = _
    omega
theorem LexAt.over (h : LexAt t P Z pos C [] next ts) : Z = .ok ts := by
  obtain ⟨hA, m, h1, h2, h3⟩ := h
  rw [h3, List.drop_nil, lexR_nil]
  simp [ahead]
theorem LexAt.few (h : LexAt t P Z pos C Y next ts) (hP : pcs t.data.toList = P) : ts.length ≤ t.size := by
  obtain ⟨hA, m, h1, h2, h3⟩ := h
  have hPc : Pcd P := hP ▸ Pcd.of _
  have hl := flat_len hPc.fit
  rw [← hP, flat_pcs, size_list, hP, ← hA.1, List.length_append] at hl
  have := h1.1
  omega
end

/- ### Rows of tokens -/
def tkC (t : Tk) : List Value := [.int .i64 (t.k : Int), .string ⟨t.s.toArray⟩, .int .i64 (t.n : Int), .int .i64 (t.a : Int)]
def tkCells (ts : List Tk) : List Value := ts.flatMap tkC
theorem tkCells_snoc (ts : List Tk) (t : Tk) : tkCells (ts ++ [t]) = tkCells ts ++ tkC t := by simp [tkCells]
theorem tkCells_len (ts : List Tk) : (tkCells ts).length = ts.length * 4 := by
  induction ts with
  | nil => rfl
  | cons t ts ih =>
    have e : tkCells (t :: ts) = tkC t ++ tkCells ts := by simp [tkCells]
    rw [e, List.length_append, ih, List.length_cons]
    show 4 + _ = _
    omega
theorem tkCells_at : ∀ (ts : List Tk) (i : Nat) (t : Tk), ts[i]? = some t → ∀ j, j < 4 → (tkCells ts)[i * 4 + j]? = (tkC t)[j]?
  | [], i, t, h, _, _ => by simp at h
  | u :: ts, 0, t, h, j, hj => by
    obtain rfl : u = t := by simpa using h
    have e : tkCells (u :: ts) = tkC u ++ tkCells ts := by simp [tkCells]
    rw [e, Nat.zero_mul, Nat.zero_add]
    exact List.getElem?_append_left (show j < 4 from hj)
  | u :: ts, i + 1, t, h, j, hj => by
    have e : tkCells (u :: ts) = tkC u ++ tkCells ts := by simp [tkCells]
    rw [e, List.getElem?_append_right (by show 4 ≤ _; omega)]
    have := tkCells_at ts i t (by simpa using h) j hj
    show (tkCells ts)[(i + 1) * 4 + j - 4]? = _
    rw [show (i + 1) * 4 + j - 4 = i * 4 + j by omega, this]
/-- Tokens that lie somewhere. -/
def TkAt (w : World) (ao : Option Addr) (ts : List Tk) : Prop := 0 < ts.length → ∃ g, ao = some ⟨g, 0, none⟩ ∧ g < w.heap.size ∧ ∀ i t, ts[i]? = some t →
  w.cell? ⟨g, i * 4, none⟩ = some (.int .i64 (t.k : Int)) ∧ w.cell? ⟨g, i * 4 + 1, none⟩ = some (.string ⟨t.s.toArray⟩) ∧ w.cell? ⟨g, i * 4 + 2, none⟩ = some (.int .i64 (t.n : Int)) ∧ w.cell? ⟨g, i * 4 + 3, none⟩ = some (.int .i64 (t.a : Int))
theorem TkAt.later {w w' : World} {ao : Option Addr} {ts : List Tk} (h : TkAt w ao ts) (hb : Below w.heap.size w w') : TkAt w' ao ts := fun h0 => by
  obtain ⟨g, h1, h2, h3⟩ := h h0
  refine ⟨g, h1, Nat.lt_of_lt_of_le h2 hb.size, fun i t ht => ?_⟩
  obtain ⟨a, b, c, d⟩ := h3 i t ht
  exact ⟨(hb.cell (p := ⟨g, i * 4, none⟩) h2).trans a, (hb.cell (p := ⟨g, i * 4 + 1, none⟩) h2).trans b, (hb.cell (p := ⟨g, i * 4 + 2, none⟩) h2).trans c, (hb.cell (p := ⟨g, i * 4 + 3, none⟩) h2).trans d⟩
theorem tk_slice {w : World} {B : Nat} {e : TypeId} {v : Value} {ts : List Tk} (h : w.ownsRow B e 4 v ts.length (tkCells ts)) :
    ∃ ao cap, v = .slice ao ts.length cap ∧ ts.length ≤ cap ∧ TkAt w ao ts := by
  have h' := h
  rcases h.2 with ⟨rfl, hn⟩ | ⟨g, cap, cur, rfl, hbg, hg, hnc, hcm, rest⟩
  · exact ⟨none, 0, by rw [hn], by omega, fun hp => absurd hp (by omega)⟩
  · refine ⟨_, cap, rfl, hnc, fun _ => ⟨g, rfl, (Array.getElem?_eq_some_iff.1 hg).1, fun k x hx => ?_⟩⟩
    have hc : ∀ j u, (tkCells ts)[j]? = some u → w.cell? ⟨g, j, none⟩ = some u := fun j u hu => by
      have := h'.cells (g := g) rfl j u hu
      have e : (⟨g, 0, none⟩ : Addr).add j = ⟨g, j, none⟩ := by unfold Addr.add; split <;> simp_all
      rwa [e] at this
    have hk := fun j (hj : j < 4) => tkCells_at ts k x hx j hj
    exact ⟨hc _ _ (hk 0 (by omega)), hc _ _ (hk 1 (by omega)), hc _ _ (hk 2 (by omega)), hc _ _ (hk 3 (by omega))⟩
/-- The end's token. -/
def endT (n : Nat) : Tk := ⟨0, [], 0, n⟩
/-- What Lex tells of a text. -/
def LexEnd (s : ByteArray) (w : World) (e : Ending) (w' : World) : Prop :=
  Below w.heap.size w w' ∧
  if 400 < s.size then e = .returned (.tuple #[.slice none 0 0, .int .i64 400, .int .i64 7])
  else match lexL s.data.toList with
    | .error p => e = .returned (.tuple #[.slice none 0 0, .int .i64 (p : Int), .int .i64 5])
    | .ok ts => ∃ ao cap, e = .returned (.tuple #[.slice ao (ts.length + 1 : Nat) cap, .int .i64 0, .int .i64 0]) ∧ ts.length + 1 ≤ cap ∧ TkAt w' ao (ts ++ [endT s.size])
end
end Go.Proofs.YtkbeemkmcnfiiaaGreatDoor
