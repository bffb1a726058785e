/- Who needs whom, turned round: neededBy. -/
import Derived.Test.YtbacphifmbjooaaGrA
import Derived.Maps.AppendAt
namespace Go.Proofs.Ytbacphifmbjooaa
open Go.RowKit

theorem iz_at' {Q : List Nat} {i : Nat} (h : i < Q.length) : (iz Q)[i]'(by rw [iz_len]; exact h) = (Q[i] : Int) := by unfold iz; rw [List.getElem_map]
theorem own_slice {w : World} {B : Nat} {e : TypeId} {z : Nat} {v : Value} {n : Nat} {xs : List Value} (h : w.ownsRow B e z v n xs) : ∃ A c, v = .slice A n c := by
  rcases h.2 with ⟨rfl, rfl⟩ | ⟨g, cap, cur, rfl, _⟩
  · exact ⟨_, _, rfl⟩
  · exact ⟨_, _, rfl⟩
theorem cell_lt {w : World} {a : Addr} {v : Value} (h : w.cell? a = some v) : a.block < w.heap.size := by
  rcases Nat.lt_or_ge a.block w.heap.size with hlt | hge
  · exact hlt
  · simp [World.cell?, Array.getElem?_eq_none hge] at h
/-- Rows of the call's own, each in a block of its own. -/
structure NBy (w : World) (B n g : Nat) (V : Nat → Value) (N : Nat → List Nat) (wr : World) : Prop where
  row : wr.rowIs g 26 n V
  own : ∀ k, k < n → OwnZ wr B (V k) (iz (N k))
  apart : ∀ j k, j < n → k < n → j ≠ k → (V j).ownBlock = none ∨ (V j).ownBlock ≠ (V k).ownBlock
  base : Below w.heap.size w wr
  size : B ≤ wr.heap.size
theorem NBy.step {w : World} {B n g : Nat} {V : Nat → Value} {N : Nat → List Nat} {wr w2 : World} {v' : Value} {o : Obj} {k i : Nat} (h : NBy w B n g V N wr) (hk : k < n) (hg : w.heap.size ≤ g) (hgB : g < B)
    (ho : w2.ownsRow B 3 1 v' ((iz (N k)).length + 1) (zs (iz (N k)) ++ [.int .i64 (i : Int)])) (hgr : (wr.alloc o).grownBy w2 (V k).ownBlock) (hat : v'.ownBlock = (V k).ownBlock ∨ v'.ownBlock = some (wr.alloc o).heap.size) :
    NBy w B n g (fun j => if j = k then v' else V j) (fun j => if j = k then N k ++ [i] else N j) (w2.setCell ⟨g, k, none⟩ v') := by
  have hs := h.size
  have hblk : ∀ j, j < n → ∀ b, (V j).ownBlock = some b → B ≤ b ∧ b < wr.heap.size := fun j hj => (h.own j hj).lt
  have hsz2 : wr.heap.size + 1 ≤ w2.heap.size := by have := hgr.size; rw [alloc_size] at this; exact this
  have hbl2 : ∀ b, v'.ownBlock = some b → B ≤ b := fun b hb => (ho.lt b hb).1
  refine ⟨?_, fun j hj => ?_, fun a c ha hc hac => ?_, ?_, ?_⟩
  · refine (World.rowIs.set ?_ k v')
    refine row_grown (h.row.alloc o) hgr fun e => ?_
    have := (hblk k hk g e).1
    omega
  · by_cases e : j = k
    · subst e
      simp only [if_true]
      refine own_stay ?_ fun b hb => Below.heap_setCell _ _ _ _ (by have := hbl2 b hb; dsimp only; omega)
      rw [← iz_snoc, List.length_append, List.length_singleton, ← zs_snoc]
      exact ho
    · simp only [if_neg e]
      have h1 := ((h.own j hj).alloc o).kept hgr (h.apart j k hj hk e)
      exact own_stay h1 fun b hb => Below.heap_setCell _ _ _ _ (by have := (hblk j hj b hb).1; dsimp only; omega)
  · have fresh : ∀ j, j < n → v'.ownBlock = some (wr.alloc o).heap.size → ∀ b, (V j).ownBlock = some b → v'.ownBlock ≠ some b := fun j hj e b hb e2 => by
      rw [e, alloc_size] at e2
      injection e2 with e2
      have := (hblk j hj b hb).2
      omega
    by_cases ea : a = k
    · subst ea
      rw [if_pos rfl, if_neg (fun e => hac e.symm)]
      rcases hat with e | e
      · rw [e]; exact h.apart a c ha hc hac
      · right
        intro e2
        exact fresh c hc e _ (e2.symm.trans e) e
    · rw [if_neg ea]
      by_cases ec : c = k
      · subst ec
        rw [if_pos rfl]
        rcases hat with e | e
        · rw [e]; exact h.apart a c ha hc hac
        · cases hb : (V a).ownBlock with
          | none => exact .inl rfl
          | some b => exact .inr fun e2 => fresh a ha e b hb e2.symm
      · rw [if_neg ec]; exact h.apart a c ha hc hac
  · have h1 : Below w.heap.size w w2 := (h.base.alloc h.base.size _).trans ((below_own ((h.own k hk).alloc o) hgr (by rw [alloc_size]; omega)).mono (by omega))
    exact h1.setCell (by dsimp only; omega) _
  · rw [show (w2.setCell ⟨g, k, none⟩ v').heap.size = w2.heap.size by simp]; omega
/-- Up to the a-th of what i needs. -/
def Nup (n : Nat) (L : List (List Int)) (i a : Nat) (N : Nat → List Nat) : Prop :=
  ∀ k, k < n → (∃ M : List Nat, M.length ≤ i ∧ (∀ j ∈ M, j < i) ∧ (N k = M ∨ N k = M ++ [i])) ∧ ∀ j, j ∈ N k ↔ (j < i ∧ (k : Int) ∈ rowL L j) ∨ (j = i ∧ (k : Int) ∈ (rowL L i).take a)
theorem Nup.zero (n : Nat) (L : List (List Int)) : Nup n L 0 0 (fun _ => []) := fun k _ => ⟨⟨[], by simp, by simp, .inl rfl⟩, by simp⟩
theorem Nup.next {n : Nat} {L : List (List Int)} {i a : Nat} {N : Nat → List Nat} (h : Nup n L i a N) (ha : (rowL L i).length ≤ a) : Nup n L (i + 1) 0 N := fun k hk => by
  obtain ⟨⟨M, h1, h2, h3⟩, h4⟩ := h k hk
  rw [List.take_of_length_le ha] at h4
  refine ⟨⟨N k, ?_, ?_, .inl rfl⟩, fun j => ?_⟩
  · rcases h3 with e | e
    · rw [e]; omega
    · rw [e, List.length_append, List.length_singleton]; omega
  · intro j hj
    rcases h3 with e | e
    · rw [e] at hj; have := h2 j hj; omega
    · rw [e] at hj
      rcases List.mem_append.1 hj with hj | hj
      · have := h2 j hj; omega
      · rw [List.mem_singleton.1 hj]; omega
  · rw [h4 j]
    constructor
    · rintro (⟨h5, h6⟩ | ⟨rfl, h6⟩)
      · exact .inl ⟨by omega, h6⟩
      · exact .inl ⟨by omega, h6⟩
    · rintro (⟨h5, h6⟩ | ⟨_, h6⟩)
      · by_cases e : j = i
        · subst e; exact .inr ⟨rfl, h6⟩
        · exact .inl ⟨by omega, h6⟩
      · simp at h6
/-- What is none of the numbers, or stands there, changes nothing. -/
theorem Nup.same {n : Nat} {L : List (List Int)} {i a : Nat} {N : Nat → List Nat} (h : Nup n L i a N) (ha : a < (rowL L i).length) (hx : ∀ k, k < n → (rowL L i)[a] = (k : Int) → i ∈ N k) : Nup n L i (a + 1) N := fun k hk => by
  obtain ⟨h1, h4⟩ := h k hk
  refine ⟨h1, fun j => ?_⟩
  rw [h4 j, List.take_succ_eq_append_getElem ha, List.mem_append, List.mem_singleton]
  constructor
  · rintro (h5 | ⟨h5, h6⟩)
    · exact .inl h5
    · exact .inr ⟨h5, .inl h6⟩
  · rintro (h5 | ⟨rfl, h6 | h6⟩)
    · exact .inl h5
    · exact .inr ⟨rfl, h6⟩
    · exact (h4 j).1 (hx k hk h6.symm)
theorem Nup.put {n : Nat} {L : List (List Int)} {i a k0 : Nat} {N : Nat → List Nat} (h : Nup n L i a N) (hk0 : k0 < n) (ha : a < (rowL L i).length) (hx : (rowL L i)[a] = (k0 : Int)) (hn : i ∉ N k0) : Nup n L i (a + 1) (fun j => if j = k0 then N k0 ++ [i] else N j) := fun k hk => by
  obtain ⟨⟨M, h1, h2, h3⟩, h4⟩ := h k hk
  have ht : (rowL L i).take (a + 1) = (rowL L i).take a ++ [(k0 : Int)] := by rw [List.take_succ_eq_append_getElem ha, hx]
  dsimp only
  by_cases e : k = k0
  · subst e
    rw [if_pos rfl]
    have hM : N k = M := by
      rcases h3 with e | e
      · exact e
      · rw [e] at hn; simp at hn
    refine ⟨⟨M, h1, h2, .inr (by rw [hM])⟩, fun j => ?_⟩
    rw [List.mem_append, h4 j, ht, List.mem_append, List.mem_singleton, List.mem_singleton]
    constructor
    · rintro ((h5 | ⟨h5, h6⟩) | h5)
      · exact .inl h5
      · exact .inr ⟨h5, .inl h6⟩
      · exact .inr ⟨h5, .inr rfl⟩
    · rintro (h5 | ⟨h5, _⟩)
      · exact .inl (.inl h5)
      · exact .inr h5
  · rw [if_neg e]
    refine ⟨⟨M, h1, h2, h3⟩, fun j => ?_⟩
    rw [h4 j, ht, List.mem_append, List.mem_singleton]
    constructor
    · rintro (h5 | ⟨h5, h6⟩)
      · exact .inl h5
      · exact .inr ⟨h5, .inl h6⟩
    · rintro (h5 | ⟨h5, h6 | h6⟩)
      · exact .inl h5
      · exact .inr ⟨h5, h6⟩
      · exact absurd (by omega) e
theorem Nup.len {n : Nat} {L : List (List Int)} {i a k : Nat} {N : Nat → List Nat} (h : Nup n L i a N) (hk : k < n) : (N k).length ≤ i + 1 := by
  obtain ⟨⟨M, h1, _, h3⟩, _⟩ := h k hk
  rcases h3 with e | e
  · rw [e]; omega
  · rw [e, List.length_append, List.length_singleton]; omega
/-- The last one is i just where i is among them. -/
theorem Nup.last {n : Nat} {L : List (List Int)} {i a k m x : Nat} {N : Nat → List Nat} (h : Nup n L i a N) (hk : k < n) (hm : (N k).length = m + 1) (hx : (N k)[m]? = some x) : x = i ↔ i ∈ N k := by
  obtain ⟨⟨M, h1, h2, h3⟩, _⟩ := h k hk
  constructor
  · rintro rfl; exact List.mem_of_getElem? hx
  · intro hi
    rcases h3 with e | e
    · rw [e] at hi; have := h2 i hi; omega
    · rw [e, List.length_append, List.length_singleton] at hm
      rw [e, List.getElem?_append_right (by omega), show m - M.length = 0 by omega] at hx
      simpa using hx.symm
/-- How neededBy ends. -/
def ByEnd (w : World) (n : Nat) (L : List (List Int)) (e : Ending) (w' : World) : Prop :=
  ∃ (g : Nat) (V : Nat → Value) (N : Nat → List Nat), e = .returned (.slice (some ⟨g, 0, none⟩) n n) ∧ w'.rowIs g 26 n V ∧ (∀ k, k < n → RowV w' (V k) (iz (N k))) ∧ (∀ k, k < n → ∀ j, j ∈ N k ↔ j < n ∧ (k : Int) ∈ rowL L j) ∧ Below w.heap.size w w'
theorem min_two (a b : Nat) (ts : Array TypeId) (t : TypeId) (u : World) : (Builtin.min_ ts t #[.int .i64 (a : Int), .int .i64 (b : Int)]).run Try.prog u = .ok (.int .i64 ((min a b : Nat) : Int)) u := by
  rw [run_min_int2]
  congr 2
  split <;> omega
set_option maxHeartbeats 8000000 in
set_option maxRecDepth 100000 in
theorem neededby_any (n : Nat) (A : Option Addr) (L : List (List Int)) (cap : Nat) (w : World) (hn : n ≤ 4096) (hlc : L.length ≤ cap) (hL : LL w A L) :
    Calls Try.prog 26 #[.int .i64 (n : Int), .slice A L.length cap] w (ByEnd w n L) := by
  obtain ⟨i0, hi, hz0, hz1, hz2⟩ := info_parts info_int
  have hmk := mk_lists n (by omega)
  have hmin := min_two n L.length
  obtain ⟨m, hm⟩ : ∃ m, m = min n L.length := ⟨_, rfl⟩
  rw [← hm] at hmin
  have hm1 : m ≤ n := by omega
  have hm2 : m ≤ L.length := by omega
  have hm3 : ¬ cap < m := by omega
  have hm4 : (m : Int) ≤ (cap : Int) := by omega
  have HM := Lib.hid hm
  have HL := Lib.hid hL
  have H0 : Hid (NBy w (w.heap.size + 1) n w.heap.size (fun _ => .slice none 0 0) (fun _ => []) (w.alloc (.cells (madeCells #[.slice none 0 0] n) 26))) :=
    Lib.hid ⟨World.rowIs_made w _ n _, fun k _ => World.ownsRow_nil _ _ _ _, fun j k _ _ _ => .inl rfl, below_alloc _ _, by rw [alloc_size]; omega⟩
  clear hL hm
  go_enter Try.func26, Try.ntmps26
  go_wp2_with fail
  go_loopg [20] (m) (fun q s20 wr => ∃ (i : Nat) (V : Nat → Value) (N : Nat → List Nat), i + q = m ∧ s20 = .int .i64 (i : Int) ∧ Hid (NBy w (w.heap.size + 1) n w.heap.size V N wr) ∧ Hid (Nup n L i 0 N))
  case atStart => exact ⟨0, _, _, by omega, rfl, H0, Lib.hid (Nup.zero n L)⟩
  case round =>
    clear H0 hmk hmin
    obtain ⟨i, V, N, hiq, rfl, HB, HN⟩ := hrel
    have HIQ := Lib.hid hiq
    obtain ⟨G, hG⟩ : ∃ G, G = gk := ⟨_, rfl⟩
    subst hG
    by_cases him : i < m
    · have himz : (i : Int) < (m : Int) := by omega
      obtain ⟨bl, ol, B, c, rfl, hcw, h1, h2, h3, -, -⟩ := HL.out.at (j := i) (by omega)
      have hcl := (HB.out.base.cell (p := ⟨bl, ol + i, none⟩) (cell_lt hcw)).trans hcw
      clear hcw
      obtain ⟨l, hl0⟩ : ∃ l, l = rowL L i := ⟨_, rfl⟩
      have HL0 := Lib.hid hl0
      rw [← hl0] at hcl h1 h2 h3
      have H3 := Lib.hid h3
      clear hiq h3 hl0
      go_wp2_with fail
      go_loopg [27] (l.length) (fun q s27 wx => ∃ (a : Nat) (V : Nat → Value) (N : Nat → List Nat), a + q = l.length ∧ s27 = .int .i64 (a : Int) ∧ Hid (NBy w (w.heap.size + 1) n w.heap.size V N wx) ∧ Hid (Nup n L i a N))
      case atStart => exact ⟨0, V, N, by omega, rfl, HB, HN⟩
      case round =>
        clear HB HN hcl
        obtain ⟨a, V, N, haq, rfl, HB, HN⟩ := hrel
        have HAQ := Lib.hid haq
        by_cases ha : a < l.length
        · have haz : (a : Int) < (l.length : Int) := by omega
          obtain ⟨b, off, rfl, hc⟩ := is_at (H3.out.below HB.out.base) ha
          have HX : ∃ x, Hid (x = l[a]) := ⟨_, Lib.hid rfl⟩
          obtain ⟨x, HX⟩ := HX
          rw [← HX.out] at hc
          have cw := within_any x n wr
          have har : a < (rowL L i).length := by rw [← HL0.out]; exact ha
          have hxr : (rowL L i)[a] = x := by rw [HX.out]; simp only [HL0.out]
          have HXR := Lib.hid hxr
          clear haq hxr
          cases hin : inn n x with
          | false =>
            rw [hin] at cw
            have HN2 : Hid (Nup n L i (a + 1) N) := Lib.hid (HN.out.same har fun k hk e => by
              rw [HXR.out] at e
              rw [e, inn_nat hk] at hin
              cases hin)
            clear hin
            go_wp2_with fail
            (with_reducible refine cw.mono ?_)
            rintro e w2 ⟨rfl, rfl⟩
            clear cw
            go_wp2_with fail
            go_roundg (l.length - (a + 1))
            case measure => have := HAQ.out; omega
            case rel => exact ⟨a + 1, V, N, by have := HAQ.out; omega, by go_num, HB, HN2⟩
          | true =>
            rw [hin] at cw
            obtain ⟨k, rfl⟩ : ∃ k : Nat, x = (k : Int) := ⟨x.toNat, (inn_lt hin).2.symm⟩
            have hk : k < n := by have := (inn_lt hin).1; simpa using this
            have hkz : (k : Int) < (n : Int) := by omega
            have hcv := HB.out.row.cell hk
            have hfz := HB.out.row.frozen k
            have hsz := HB.out.size
            obtain ⟨A', c', hv, hc1, hc2, -⟩ := els_own (d := (0 : Int)) (HB.out.own k hk)
            have hlen := HN.out.len hk
            have HNS := Lib.hid (HN.out.same (k := k))
            rw [iz_len] at hv hc1
            rw [hv] at hcv
            have HV := Lib.hid hv
            clear hin hv
            by_cases hik : i ∈ N k
            · obtain ⟨m', hm'⟩ : ∃ m', (N k).length = m' + 1 := ⟨(N k).length - 1, by have := List.length_pos_of_mem hik; omega⟩
              have hlast : (N k)[m']? = some i := by
                have e1 : (N k)[m']? = some (N k)[m'] := List.getElem?_eq_getElem (by omega)
                rw [e1, (HN.out.last hk hm' e1).2 hik]
              have HN2 : Hid (Nup n L i (a + 1) N) := Lib.hid (HN.out.same har fun k' hk' e => by
                rw [HXR.out] at e
                have : k = k' := by omega
                subst this
                exact hik)
              have hlz : ((m' : Int) + 1 == 0) = false := beq_eq_false_iff_ne.2 (by omega)
              have hm5 : m' ≤ 4096 := by omega
              obtain ⟨b', off', rfl, hcl2⟩ := is_at hc2 (k := m') (by rw [iz_len]; omega)
              rw [iz_at' (by omega), show (N k)[m'] = i by have := hlast; rw [List.getElem?_eq_getElem (by omega)] at this; simpa using this] at hcl2
              rw [hm'] at hcv hc1
              have hii : ((i : Int) != (i : Int)) = false := by simp
              clear hm' hlast hlen
              go_wp2_with fail
              (with_reducible refine cw.mono ?_)
              rintro e w2 ⟨rfl, rfl⟩
              clear cw
              go_wp2_with fail
              go_roundg (l.length - (a + 1))
              case measure => have := HAQ.out; omega
              case rel => exact ⟨a + 1, V, N, by have := HAQ.out; omega, by go_num, HB, HN2⟩
            · rcases Nat.eq_zero_or_pos (N k).length with hlen0 | hpos
              · skip
                have HOW := Lib.hid (show OwnZ wr (w.heap.size + 1) (.slice A' 0 c') (iz (N k)) by have := HB.out.own k hk; rw [HV.out, hlen0] at this; exact this)
                have HN2 := Lib.hid (HN.out.put hk har HXR.out hik)
                have hle : (iz (N k)).length ≤ 4097 := by rw [iz_len]; omega
                rw [hlen0] at hcv hc1
                have HLN := Lib.hid hlen0
                clear hlen0 hlen
                go_wp2_with fail
                (with_reducible refine cw.mono ?_)
                rintro e w2 ⟨rfl, rfl⟩
                clear cw
                go_wp2_with (at_builtin; refine wpList_append_own_at _ rfl _ _ 26 rfl (w.heap.size + 1) 3 i0 (.int .i64 0) 1 8 Try.underlying26 hi hz0 hz1 hz2 rfl (by decide) _ _ _ rfl (HOW.out.alloc _) ⟨w2.heap.size, 0, none⟩ 1 1 [.int .i64 (i : Int)] rfl rfl (one_cell_at rfl _ _) ?c2 ?c3 ?c4 ?c5 ?_)
                case c2 => first | rfl | (intro u hu; simp at hu; subst hu; rfl)
                case c3 => unfold maxLen; omega
                case c4 => omega
                case c5 => first | omega | (rw [alloc_size]; omega)
                intro v' w3 hown' hgrow' _ hat'
                obtain ⟨A2, c2, rfl⟩ := own_slice hown'
                have hr3 := row_grown (HB.out.row.alloc (.cells #[.int .i64 (i : Int)] 3)) hgrow' (fun e => by have := (HOW.out.lt _ e).1; omega)
                have h3c := hr3.cell hk
                have h3f := hr3.frozen k
                have HB2 := Lib.hid (HB.out.step (i := i) hk (Nat.le_refl _) (Nat.lt_succ_self _) hown' (by rw [HV.out, HLN.out]; exact hgrow') (by rw [HV.out, HLN.out, alloc_size]; exact hat'))
                clear hown' hgrow' hat' hr3
                go_wp2_with fail
                go_roundg (l.length - (a + 1))
                case measure => have := HAQ.out; omega
                case rel => exact ⟨a + 1, _, _, by have := HAQ.out; omega, by go_num, HB2, HN2⟩
              · obtain ⟨m', hlen0⟩ : ∃ m', (N k).length = m' + 1 := ⟨(N k).length - 1, by omega⟩
                have hlz : ((m' : Int) + 1 == 0) = false := beq_eq_false_iff_ne.2 (by omega)
                have hm5 : m' ≤ 4096 := by omega
                have e1 : (N k)[m']? = some (N k)[m'] := List.getElem?_eq_getElem (by omega)
                have hne := mt (HN.out.last hk hlen0 e1).1 hik
                obtain ⟨b', off', rfl, hcl2⟩ := is_at hc2 (k := m') (by rw [iz_len]; omega)
                rw [iz_at' (by omega)] at hcl2
                have hii : (((N k)[m'] : Int) != (i : Int)) = true := by simp; omega
                have hii2 : (((N k)[m'] : Int) == (i : Int)) = false := beq_eq_false_iff_ne.2 (by omega)
                generalize (N k)[m'] = y at *
                clear e1 hne hpos
                have HOW := Lib.hid (show OwnZ wr (w.heap.size + 1) (.slice (some ⟨b', off', none⟩) (m' + 1) c') (iz (N k)) by have := HB.out.own k hk; rw [HV.out, hlen0] at this; exact this)
                have HN2 := Lib.hid (HN.out.put hk har HXR.out hik)
                have hle : (iz (N k)).length ≤ 4097 := by rw [iz_len]; omega
                rw [hlen0] at hcv hc1
                have HLN := Lib.hid hlen0
                clear hlen0 hlen
                go_wp2_with fail
                (with_reducible refine cw.mono ?_)
                rintro e w2 ⟨rfl, rfl⟩
                clear cw
                go_wp2_with (at_builtin; refine wpList_append_own_at _ rfl _ _ 26 rfl (w.heap.size + 1) 3 i0 (.int .i64 0) 1 8 Try.underlying26 hi hz0 hz1 hz2 rfl (by decide) _ _ _ rfl (HOW.out.alloc _) ⟨w2.heap.size, 0, none⟩ 1 1 [.int .i64 (i : Int)] rfl rfl (one_cell_at rfl _ _) ?c2 ?c3 ?c4 ?c5 ?_)
                case c2 => first | rfl | (intro u hu; simp at hu; subst hu; rfl)
                case c3 => unfold maxLen; omega
                case c4 => omega
                case c5 => first | omega | (rw [alloc_size]; omega)
                intro v' w3 hown' hgrow' _ hat'
                obtain ⟨A2, c2, rfl⟩ := own_slice hown'
                have hr3 := row_grown (HB.out.row.alloc (.cells #[.int .i64 (i : Int)] 3)) hgrow' (fun e => by have := (HOW.out.lt _ e).1; omega)
                have h3c := hr3.cell hk
                have h3f := hr3.frozen k
                have HB2 := Lib.hid (HB.out.step (i := i) hk (Nat.le_refl _) (Nat.lt_succ_self _) hown' (by rw [HV.out, HLN.out]; exact hgrow') (by rw [HV.out, HLN.out, alloc_size]; exact hat'))
                clear hown' hgrow' hat' hr3
                go_wp2_with fail
                go_roundg (l.length - (a + 1))
                case measure => have := HAQ.out; omega
                case rel => exact ⟨a + 1, _, _, by have := HAQ.out; omega, by go_num, HB2, HN2⟩
        · have haz : ¬ (a : Int) < (l.length : Int) := by omega
          have HN2 : Hid (Nup n L (i + 1) 0 N) := Lib.hid (HN.out.next (by rw [← HL0.out]; omega))
          clear haq
          go_wp2_with fail
          go_roundg (m - (i + 1))
          case measure => have := HIQ.out; omega
          case rel => exact ⟨i + 1, V, N, by have := HIQ.out; omega, by go_num, HB, HN2⟩
    · have himz : ¬ (i : Int) < (m : Int) := by omega
      have HR : Hid (ByEnd w n L (.returned (.slice (some ⟨w.heap.size, 0, none⟩) n n)) wr) := Lib.hid ⟨w.heap.size, V, N, rfl, HB.out.row, fun k hk => RowV.of_own (HB.out.own k hk) (by have := HN.out.len hk; rw [iz_len]; omega) (fun z hz => by
        unfold iz at hz
        obtain ⟨j, hj, rfl⟩ := List.mem_map.1 hz
        rcases ((HN.out k hk).2 j).1 hj with ⟨h5, _⟩ | ⟨h5, _⟩
        · omega
        · omega), fun k hk j => by
        rw [(HN.out k hk).2 j]
        have hM := HM.out
        constructor
        · rintro (⟨h5, h6⟩ | ⟨_, h6⟩)
          · exact ⟨by omega, h6⟩
          · simp at h6
        · rintro ⟨h5, h6⟩
          refine .inl ⟨?_, h6⟩
          rcases Nat.lt_or_ge j L.length with h7 | h7
          · omega
          · (rw [rowL_out h7] at h6; cases h6), HB.out.base⟩
      clear hiq
      go_wp2_with fail
      go_ret
      exact HR.out
end Go.Proofs.Ytbacphifmbjooaa
