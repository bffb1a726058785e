/- GraphLine: a line, a ring. -/
import Derived.Test.YtbacphifmbjooaaGrG
import Derived.Test.YtbacphifmbjooaaGrF
import Derived.RegionTactic
namespace Go.Proofs.Ytbacphifmbjooaa
open Go.RowKit

/-- The needs, as far as they are written down: i of them, each in a block of its own. -/
structure LnS (W : World) (k b i : Nat) (V : Nat → Value) (Q : Nat → List Int) (wr : World) : Prop where
  row : wr.rowIs W.heap.size 26 k V
  each : ∀ j, j < k → (V j = .slice none 0 0 ∧ Q j = []) ∨ ∃ bl x : Nat, W.heap.size < bl ∧ bl < wr.heap.size ∧ V j = .slice (some ⟨bl, 0, none⟩) 1 1 ∧ Q j = [(x : Int)] ∧ x < k ∧ wr.cell? ⟨bl, 0, none⟩ = some (.int .i64 (x : Int))
  done : ∀ m, m < i → Q (m * b % k) = [(((m + 1) * b % k : Nat) : Int)]
  rest : ∀ j, j < k → (∀ m, m < i → j ≠ m * b % k) → Q j = []
  base : Below W.heap.size W wr
theorem LnS.start (W : World) (k b : Nat) : LnS W k b 0 (fun _ => .slice none 0 0) (fun _ => []) (W.alloc (.cells (madeCells #[.slice none 0 0] k) 26)) :=
  ⟨World.rowIs_made W _ k _, fun _ _ => .inl ⟨rfl, rfl⟩, fun m h => by omega, fun _ _ _ => rfl, below_alloc _ _⟩
/-- One more is written down: its list lies in a new block. -/
theorem LnS.put {W wr wx : World} {k b i : Nat} {V : Nat → Value} {Q : Nat → List Int} (h : LnS W k b i V Q wr) {p x : Nat} (hx : x < k) (h1 : wx.heap.size = wr.heap.size + 1) (hb : Below wr.heap.size wr wx) (hc : wx.cell? ⟨wr.heap.size, 0, none⟩ = some (.int .i64 (x : Int)))
    {i2 : Nat} (hd : ∀ m, m < i2 → (if m * b % k = p then [(x : Int)] else Q (m * b % k)) = [(((m + 1) * b % k : Nat) : Int)]) (hn : ∀ j, j < k → (∀ m, m < i2 → j ≠ m * b % k) → (if j = p then [(x : Int)] else Q j) = []) :
    LnS W k b i2 (fun j => if j = p then .slice (some ⟨wr.heap.size, 0, none⟩) 1 1 else V j) (fun j => if j = p then [(x : Int)] else Q j) (wx.setCell ⟨W.heap.size, p, none⟩ (.slice (some ⟨wr.heap.size, 0, none⟩) 1 1)) := by
  have hs := h.base.size
  have hlt := h.row.lt
  refine ⟨(row_later h.row hb).set p _, fun j hj => ?_, hd, hn, (h.base.trans (hb.mono hs)).setCell (Nat.le_refl _) _⟩
  have hcell : ∀ bl v, W.heap.size < bl → wx.cell? ⟨bl, 0, none⟩ = some v → (wx.setCell ⟨W.heap.size, p, none⟩ (.slice (some ⟨wr.heap.size, 0, none⟩) 1 1)).cell? ⟨bl, 0, none⟩ = some v := fun bl v hbl hv =>
    (World.cell?_of_block (w := wx) (a := ⟨bl, 0, none⟩) (Below.heap_setCell _ _ _ _ (by dsimp only; omega))).trans hv
  have hsz : (wx.setCell ⟨W.heap.size, p, none⟩ (.slice (some ⟨wr.heap.size, 0, none⟩) 1 1)).heap.size = wx.heap.size := by simp
  by_cases e : j = p
  · simp only [if_pos e]
    exact .inr ⟨wr.heap.size, x, hlt, by rw [hsz, h1]; omega, rfl, rfl, hx, hcell _ _ hlt hc⟩
  · simp only [if_neg e]
    rcases h.each j hj with h2 | ⟨bl, y, h2, h3, h4, h5, h6, h7⟩
    · exact .inl h2
    · exact .inr ⟨bl, y, h2, by rw [hsz, h1]; omega, h4, h5, h6, hcell _ _ h2 ((hb.cell (p := ⟨bl, 0, none⟩) h3).trans h7)⟩
theorem rowL_map (Q : Nat → List Int) {k j : Nat} (h : j < k) : rowL ((List.range k).map Q) j = Q j := by
  unfold rowL
  rw [List.getD_eq_getElem?_getD, List.getElem?_map, List.getElem?_range h]
  rfl
theorem LnS.ll {W wr : World} {k b i : Nat} {V : Nat → Value} {Q : Nat → List Int} (h : LnS W k b i V Q wr) (hk : k ≤ 1000) : LL wr (some ⟨W.heap.size, 0, none⟩) ((List.range k).map Q) := by
  refine ⟨V, fun _ => ⟨W.heap.size, 0, rfl, fun j hj => ?_⟩, fun j hj => ?_⟩
  · rw [List.length_map, List.length_range] at hj
    rw [Nat.zero_add]
    exact h.row.cell hj
  · rw [List.length_map, List.length_range] at hj
    rw [rowL_map Q hj]
    rcases h.each j hj with ⟨e1, e2⟩ | ⟨bl, x, h2, h3, h4, h5, h6, h7⟩
    · rw [e1, e2]; exact RowV.nil _
    · rw [h4, h5]
      refine ⟨_, 1, rfl, Nat.le_refl _, by simp, fun _ => ⟨bl, 0, rfl, fun m hm => ?_⟩, (fun e => by cases e), fun z hz => ?_⟩
      · obtain rfl : m = 0 := by simp only [List.length_singleton] at hm; omega
        exact h7
      · rw [List.mem_singleton.1 hz]; omega
theorem LnS.line {W wr : World} {k b : Nat} {V : Nat → Value} {Q : Nat → List Int} (h : LnS W k b (k - 1) V Q wr) (hl : Lin k b) : IsLine k b false ((List.range k).map Q) := by
  have h2 := hl.k2
  refine ⟨hl, fun i hi => ?_, ?_⟩
  · rw [rowL_map Q (lin_lt hl i)]
    exact h.done i (by omega)
  · rw [rowL_map Q (lin_lt hl _)]
    exact h.rest _ (lin_lt hl _) fun m hm e => by
      have := hl.inj _ _ (by omega) (by omega) e
      omega
theorem LnS.ring {W wr : World} {k b : Nat} {V : Nat → Value} {Q : Nat → List Int} (h : LnS W k b k V Q wr) (hl : Lin k b) : IsLine k b true ((List.range k).map Q) := by
  have h2 := hl.k2
  refine ⟨hl, fun i hi => ?_, ?_⟩
  · rw [rowL_map Q (lin_lt hl i)]
    exact h.done i (by omega)
  · rw [rowL_map Q (lin_lt hl _), h.done (k - 1) (by omega), show k - 1 + 1 = k by omega, Nat.mul_mod_right]
    rfl
theorem LnS.next {W wr wx : World} {k b i : Nat} {V : Nat → Value} {Q : Nat → List Int} (h : LnS W k b i V Q wr) (hl : Lin k b) (hi : i < k) (h1 : wx.heap.size = wr.heap.size + 1) (hb : Below wr.heap.size wr wx) (hc : wx.cell? ⟨wr.heap.size, 0, none⟩ = some (.int .i64 (((i + 1) * b % k : Nat) : Int))) :
    LnS W k b (i + 1) (fun j => if j = i * b % k then .slice (some ⟨wr.heap.size, 0, none⟩) 1 1 else V j) (fun j => if j = i * b % k then [(((i + 1) * b % k : Nat) : Int)] else Q j) (wx.setCell ⟨W.heap.size, i * b % k, none⟩ (.slice (some ⟨wr.heap.size, 0, none⟩) 1 1)) := by
  refine h.put (lin_lt hl _) h1 hb hc (fun m hm => ?_) (fun j hj hall => ?_)
  · by_cases e : m = i
    · subst e; rw [if_pos rfl]
    · rw [if_neg (fun e2 => e (hl.inj _ _ (by omega) hi e2))]
      exact h.done m (by omega)
  · rw [if_neg (hall i (Nat.lt_succ_self _))]
    exact h.rest j hj fun m hm => hall m (by omega)
theorem LnS.like {W wr wx : World} {k b i : Nat} {V : Nat → Value} {Q : Nat → List Int} (h : LnS W k b i V Q wr) (hb : Below wr.heap.size wr wx) : LnS W k b i V Q wx := by
  refine ⟨row_later h.row hb, fun j hj => ?_, h.done, h.rest, h.base.trans (hb.mono h.base.size)⟩
  rcases h.each j hj with h2 | ⟨bl, y, h2, h3, h4, h5, h6, h7⟩
  · exact .inl h2
  · exact .inr ⟨bl, y, h2, Nat.lt_of_lt_of_le h3 hb.size, h4, h5, h6, (hb.cell (p := ⟨bl, 0, none⟩) h3).trans h7⟩
theorem put_past {w : World} {g p : Nat} {v : Value} {o : Obj} (h : g < w.heap.size) : (w.alloc o).setCell ⟨g, p, none⟩ v = (w.setCell ⟨g, p, none⟩ v).alloc o := World.setCell_alloc_past o g p v h
theorem one_at (w : World) (z : Int) : (w.alloc (.cells #[.int .i64 z] 3)).cell? ⟨w.heap.size, 0, none⟩ = some (.int .i64 z) := by
  rw [cell_of_row _ _ 0 _ _ _ (heap_alloc_new w _)]; rfl
theorem LnS.round {W wr : World} {k b i R1 R2 : Nat} {V : Nat → Value} {Q : Nat → List Int} (h : LnS W k b i V Q wr) (hl : Lin k b) (hi : i < k) (e1 : R1 = i * b % k) (e2 : R2 = (i + 1) * b % k) :
    ∃ V Q, LnS W k b (i + 1) V Q ((wr.setCell ⟨W.heap.size, R1, none⟩ (.slice (some ⟨wr.heap.size, 0, none⟩) 1 1)).alloc (.cells #[.int .i64 (R2 : Int)] 3)).drew := by
  have hlt := h.row.lt
  have h1 := h.next (wx := wr.alloc (.cells #[.int .i64 (R2 : Int)] 3)) hl hi (alloc_size _ _) (below_alloc _ _) (by rw [e2]; exact one_at _ _)
  rw [← e1, put_past hlt] at h1
  exact ⟨_, _, h1.like (Below.refl _ _).drew⟩
/-- The line is turned into a ring. -/
theorem LnS.shut {W wr : World} {k b R : Nat} {V : Nat → Value} {Q : Nat → List Int} (h : LnS W k b (k - 1) V Q wr) (hl : Lin k b) (e : R = (k - 1) * b % k) :
    ∃ V Q, LnS W k b k V Q ((wr.setCell ⟨W.heap.size, R, none⟩ (.slice (some ⟨wr.heap.size, 0, none⟩) 1 1)).alloc (.cells #[.int .i64 0] 3)) := by
  have hk2 := hl.k2
  have hlt := h.row.lt
  have h1 := h.next (wx := wr.alloc (.cells #[.int .i64 0] 3)) hl (by omega) (alloc_size _ _) (below_alloc _ _) (by
    rw [show k - 1 + 1 = k by omega, Nat.mul_mod_right]; exact one_at _ _)
  rw [← e, put_past hlt, show k - 1 + 1 = k by omega] at h1
  exact ⟨_, _, h1⟩
theorem lineO_at {k b i : Nat} (h : i < k) : (iz (lineO k b k))[i]? = some ((((k - 1 - i) * b % k : Nat) : Int)) := by
  unfold iz lineO
  rw [List.map_map, List.getElem?_map, List.getElem?_range h]
  rfl
theorem lineO_len (k b : Nat) : (iz (lineO k b k)).length = k := by unfold iz lineO; rw [List.length_map, List.length_map, List.length_range]
theorem tmod_nat (a b : Nat) : (a : Int).tmod (b : Int) = ((a % b : Nat) : Int) := by rw [Int.tmod_eq_emod_of_nonneg (by omega)]; exact (Int.natCast_emod a b).symm
set_option maxHeartbeats 8000000 in
set_option maxRecDepth 100000 in
theorem graphline_go (x y : Int) (k m p1 p2 : Nat) (w : World) (cp1 : ∀ w, Calls Try.prog 19 #[.int .i64 x, .int .i64 30] w fun e w' => e = .returned (.int .i64 (p1 : Int)) ∧ w = w') (cp2 : ∀ w, Calls Try.prog 19 #[.int .i64 y, .int .i64 (m : Int)] w fun e w' => e = .returned (.int .i64 (p2 : Int)) ∧ w = w')
    (hk : k = 2 + p1) (hm : m + 1 = k) (hk31 : k ≤ 31) (hp2 : p2 < m) :
    Calls Try.prog 7 #[.int .i64 x, .int .i64 y] w fun e w' => e = .returned (.bool true) ∧ Below w.heap.size w w' := by
  have hkz : (2 : Int) + (p1 : Int) = (k : Int) := by omega
  have hmz : (k : Int) - 1 = (m : Int) := by omega
  obtain ⟨b0, hb0⟩ : ∃ b0, b0 = 1 + p2 := ⟨_, rfl⟩
  have hbz : (1 : Int) + (p2 : Int) = (b0 : Int) := by omega
  have hb01 : 1 ≤ b0 := by omega
  have hb0k : b0 < k := by omega
  have HKM := Lib.hid hm
  have hk2 : 2 ≤ k := by omega
  have caw := awake_any
  have hmk := mk_lists k (by omega)
  clear hk hm hb0
  go_enter Try.func7, Try.ntmps7
  go_wp2_with fail
  (with_reducible refine (cp1 w).mono ?_)
  rintro e w0 ⟨rfl, rfl⟩
  clear cp1
  go_wp2_with fail
  (with_reducible refine (cp2 w).mono ?_)
  rintro e w0 ⟨rfl, rfl⟩
  clear cp2
  go_wp2_with fail
  clear hkz hbz hp2
  go_loopg [6] (b0) (fun q s6 wr => ∃ b : Nat, 1 ≤ b ∧ b < k ∧ b ≤ q ∧ s6 = .int .i64 (b : Int) ∧ Hid (Below w.heap.size w wr))
  case atStart => exact ⟨b0, hb01, hb0k, Nat.le_refl _, rfl, Lib.hid (Below.refl _ _)⟩
  case round =>
    clear hb01 hb0k
    obtain ⟨b, hb1, hbk, hbq, rfl, HW⟩ := hrel
    have HBQ := Lib.hid hbq
    clear hbq
    have cg := gcd_any b k wr (by omega) (by omega)
    obtain ⟨g, hg⟩ : ∃ g, g = Nat.gcd b k := ⟨_, rfl⟩
    have HG := Lib.hid hg
    rw [← hg] at cg
    clear hg
    by_cases h1 : 1 < b
    · have h1z : (1 : Int) < (b : Int) := by omega
      by_cases hg1 : g = 1
      · have hgz : ((1 : Int) != 1) = false := by simp
        subst hg1
        go_wp2_with fail
        (with_reducible refine cg.mono ?_)
        rintro e W ⟨rfl, hbg⟩
        have HBW := Lib.hid (HW.out.trans (hbg.mono HW.out.size))
        have HLIN := Lib.hid (lin hk2 hk31 hb1 hbk HG.out.symm)
        clear cg hbg HW HG HBQ h1z
        have HL0 := Lib.hid (LnS.start W k b)
        go_wp2_with fail
        go_loopg [8] (m) (fun q s8 wy => ∃ (i : Nat) (V : Nat → Value) (Q : Nat → List Int), i + q = m ∧ s8 = .int .i64 (i : Int) ∧ Hid (LnS W k b i V Q wy))
        case atStart => exact ⟨0, _, _, by omega, rfl, HL0⟩
        case round =>
          clear HL0
          obtain ⟨i, V, Q, hiq, rfl, HS⟩ := hrel
          have HIQ := Lib.hid hiq
          clear hiq
          by_cases hi : i + 1 < k
          · have hiz : (i : Int) + 1 < (k : Int) := by omega
            obtain ⟨P1, hP1⟩ : ∃ P1, P1 = i * b := ⟨_, rfl⟩
            obtain ⟨P2, hP2⟩ : ∃ P2, P2 = (i + 1) * b := ⟨_, rfl⟩
            have hp1l : P1 ≤ 961 := by rw [hP1]; exact Nat.le_trans (Nat.mul_le_mul (show i ≤ 31 by omega) (show b ≤ 31 by omega)) (by decide)
            have hp2l : P2 ≤ 961 := by rw [hP2]; exact Nat.le_trans (Nat.mul_le_mul (show i + 1 ≤ 31 by omega) (show b ≤ 31 by omega)) (by decide)
            have e1 : (i : Int) * (b : Int) = (P1 : Int) := by rw [hP1]; exact (Int.natCast_mul i b).symm
            have e2 : ((i : Int) + 1) * (b : Int) = (P2 : Int) := by rw [hP2, Int.natCast_mul]; rfl
            have e3 := tmod_nat P1 k
            have e4 := tmod_nat P2 k
            have hkne : ¬ (k : Int) = 0 := by omega
            have hkne2 : ((k : Int) == 0) = false := beq_eq_false_iff_ne.2 hkne
            have hr1 : P1 % k < k := Nat.mod_lt _ (by omega)
            have HR1 := Lib.hid (show P1 % k = i * b % k by rw [hP1])
            have HR2 := Lib.hid (show P2 % k = (i + 1) * b % k by rw [hP2])
            generalize P1 % k = R1 at *
            generalize P2 % k = R2 at *
            have hr1z : (R1 : Int) < (k : Int) := by omega
            have hcv := HS.out.row.cell hr1
            have hfz := HS.out.row.frozen R1
            have hlt := HS.out.row.lt
            clear hP1 hP2
            have HN := HS.out.round (R1 := R1) (R2 := R2) HLIN.out (by omega) HR1.out HR2.out
            go_wp2_with fail
            go_region
            all_goals
              go_wp2_with fail
              go_roundg (m - (i + 1))
              case measure => have := HIQ.out; have := HKM.out; omega
              case rel =>
                obtain ⟨V', Q', hN⟩ := HN
                exact ⟨i + 1, V', Q', by have := HIQ.out; have := HKM.out; omega, by go_num, Lib.hid hN⟩
          · have hib : i ≤ 31 := by have := HKM.out; have := HIQ.out; omega
            have hiz : decide ((i : Int) + 1 < (k : Int)) = false := decide_eq_false (by omega)
            have HSL := Lib.hid (show LnS W k b (k - 1) V Q wr by have := HS.out; rwa [show i = k - 1 by have := HKM.out; have := HIQ.out; omega] at this)
            have HLI := Lib.hid (HSL.out.line HLIN.out)
            have hlen : ((List.range k).map Q).length = k := by rw [List.length_map, List.length_range]
            have HLEN := Lib.hid hlen
            have co := order_any (k : Int) _ _ k wr (HSL.out.ll (by omega))
            rw [hlen, HLI.out.ord.1, HLI.out.ord.2] at co
            have HBR := Lib.hid (HBW.out.trans (HS.out.base.mono HBW.out.size))
            have HZA := Lib.hid (fun i (h : i < k) => lineO_at (b := b) h)
            have hZl := lineO_len k b
            have hkne : ¬ (k : Int) = 0 := by omega
            have hkne2 : ((k : Int) == 0) = false := beq_eq_false_iff_ne.2 hkne
            generalize iz (lineO k b k) = Z at *
            clear hlen HS HIQ
            go_wp2_with fail
            (with_reducible refine co.mono ?_)
            rintro e w3 ⟨A9, c9, rfl, -, h9, hb3⟩
            have H9 := Lib.hid h9
            have HB3 := Lib.hid (HBR.out.trans (hb3.mono HBR.out.size))
            have HS3 := Lib.hid (HSL.out.like hb3)
            have HZL := Lib.hid hZl
            rw [hZl]
            clear co h9 hb3 HSL hZl
            go_wp2_with fail
            go_loopg [11] (k) (fun q s11 wz => ∃ i : Nat, i + q = k ∧ s11 = .int .i64 (i : Int) ∧ Hid (Below w3.heap.size w3 wz))
            case atStart => exact ⟨0, by omega, rfl, Lib.hid (Below.refl _ _)⟩
            case round =>
              obtain ⟨j, hjq, rfl, HW⟩ := hrel
              have HJQ := Lib.hid hjq
              clear hjq
              by_cases hj : j < k
              · have hjz : (j : Int) < (k : Int) := by omega
                obtain ⟨b9, o9, rfl, hc⟩ := is_at (H9.out.below HW.out) (k := j) (by rw [HZL.out]; exact hj)
                obtain ⟨q, hq⟩ : ∃ q, q = k - 1 - j := ⟨_, rfl⟩
                obtain ⟨P, hP⟩ : ∃ P, P = q * b := ⟨_, rfl⟩
                have hPl : P ≤ 961 := by rw [hP]; exact Nat.le_trans (Nat.mul_le_mul (show q ≤ 31 by omega) (show b ≤ 31 by omega)) (by decide)
                have e0 : (m : Int) - (j : Int) = (q : Int) := by have := HKM.out; omega
                have e1 : (q : Int) * (b : Int) = (P : Int) := by rw [hP]; exact (Int.natCast_mul q b).symm
                have e3 := tmod_nat P k
                have hZj : Z[j]'(by rw [HZL.out]; exact hj) = ((P % k : Nat) : Int) := by
                  have := HZA.out j hj
                  rw [List.getElem?_eq_getElem (by rw [HZL.out]; exact hj), ← hq, ← hP] at this
                  simpa using this
                rw [hZj] at hc
                clear hZj hP hq
                generalize P % k = R at *
                go_wp2_with fail
                go_quiet (fail)
                go_wp2_with fail
                go_roundg (k - (j + 1))
                case measure => have := HJQ.out; omega
                case rel => exact ⟨j + 1, by have := HJQ.out; omega, by go_num, Lib.hid (below_drw HW.out _)⟩
              · have hjz : ¬ (j : Int) < (k : Int) := by omega
                obtain ⟨P, hP⟩ : ∃ P, P = m * b := ⟨_, rfl⟩
                have hPl : P ≤ 961 := by rw [hP]; exact Nat.le_trans (Nat.mul_le_mul (show m ≤ 31 by have := HKM.out; omega) (show b ≤ 31 by omega)) (by decide)
                have e1 : (m : Int) * (b : Int) = (P : Int) := by rw [hP]; exact (Int.natCast_mul m b).symm
                have e3 := tmod_nat P k
                have hRk : P % k < k := Nat.mod_lt _ (by omega)
                have HRE := Lib.hid (show P % k = (k - 1) * b % k by rw [hP, show m = k - 1 by have := HKM.out; omega])
                generalize P % k = R at *
                have HS4 := Lib.hid (HS3.out.like HW.out)
                have HB4 := Lib.hid (HB3.out.trans (HW.out.mono HB3.out.size))
                have hba := below_alloc wr (.cells #[.int .i64 (R : Int)] 3)
                have cr := reach_any (k : Int) _ _ k (some ⟨wr.heap.size, 0, none⟩) [(R : Int)] 1 (wr.alloc (.cells #[.int .i64 (R : Int)] 3)) (Nat.le_of_eq HLEN.out) ((HS4.out.like hba).ll (by omega)) (by simp) (lit_is (lit_row wr [(R : Int)] (by intro z hz; rw [List.mem_singleton.1 hz]; omega) (by simp)))
                have hall : (reachI (k : Int) ((List.range k).map Q) [(R : Int)]).length = k := HLI.out.all (by rw [HRE.out]; exact List.mem_singleton.2 rfl)
                rw [HLEN.out, List.length_singleton] at cr
                generalize reachI (k : Int) ((List.range k).map Q) [(R : Int)] = Y at *
                have HYL := Lib.hid hall
                clear hP hba hall HW HZA HZL H9 HJQ
                go_wp2_with fail
                (with_reducible refine cr.mono ?_)
                rintro e w5 ⟨A5, c5, rfl, -, -, -, hb5⟩
                rw [HYL.out]
                have hb45 : Below wr.heap.size wr w5 := (below_alloc wr _).trans (hb5.mono (by rw [alloc_size]; omega))
                have HS5 := Lib.hid (HS4.out.like hb45)
                have HB5 := Lib.hid (HB4.out.trans (hb45.mono HB4.out.size))
                have hba := below_alloc w5 (.cells #[.int .i64 0] 3)
                have cr := reach_any (k : Int) _ _ k (some ⟨w5.heap.size, 0, none⟩) [0] 1 (w5.alloc (.cells #[.int .i64 0] 3)) (Nat.le_of_eq HLEN.out) ((HS5.out.like hba).ll (by omega)) (by decide) (lit_is (lit_row w5 [0] (by decide) (by decide)))
                have hone : (reachI (k : Int) ((List.range k).map Q) [0]).length = 1 := HLI.out.one
                rw [HLEN.out, List.length_singleton] at cr
                generalize reachI (k : Int) ((List.range k).map Q) [0] = Y2 at *
                have HYL2 := Lib.hid hone
                clear hb5 hb45 hba hone HS4
                go_wp2_with fail
                (with_reducible refine cr.mono ?_)
                rintro e w6 ⟨A6, c6, rfl, -, -, -, hb6⟩
                rw [HYL2.out]
                have hb56 : Below w5.heap.size w5 w6 := (below_alloc w5 _).trans (hb6.mono (by rw [alloc_size]; omega))
                have HS6 := Lib.hid (HS5.out.like hb56)
                have HB6 := Lib.hid (HB5.out.trans (hb56.mono HB5.out.size))
                have hcv := HS6.out.row.cell hRk
                have hfz := HS6.out.row.frozen R
                have hlt := HS6.out.row.lt
                have hRz : (R : Int) < (k : Int) := by omega
                obtain ⟨V7, Q7, hS7⟩ := HS6.out.shut HLIN.out HRE.out
                obtain ⟨w7, hw7⟩ : ∃ w7, (w6.setCell ⟨W.heap.size, R, none⟩ (.slice (some ⟨w6.heap.size, 0, none⟩) 1 1)).alloc (.cells #[.int .i64 0] 3) = w7 := ⟨_, rfl⟩
                rw [hw7] at hS7
                have HS7 := Lib.hid hS7
                have HLR := Lib.hid (hS7.ring HLIN.out)
                have HB7 := Lib.hid (show Below w.heap.size w w7 from HBW.out.trans (hS7.base.mono HBW.out.size))
                have hlen7 : ((List.range k).map Q7).length = k := by rw [List.length_map, List.length_range]
                have co := order_any (k : Int) _ _ k w7 (hS7.ll (by omega))
                rw [hlen7, HLR.out.stuck.1] at co
                have hsl := HLR.out.stuck.2
                have cs := fun (w8 : World) (h : Below w7.heap.size w7 w8) => stuck_any (k : Int) _ _ k w8 ((HS7.out.like h).ll (by omega))
                rw [hlen7] at cs
                generalize stuckI (k : Int) ((List.range k).map Q7) = Y3 at *
                generalize ordI (k : Int) ((List.range k).map Q7) = Y4 at *
                have HYL3 := Lib.hid hsl
                clear hb6 hb56 hS7 hsl hlen7 HS5
                go_wp2_with fail
                (with_reducible refine co.mono ?_)
                rintro e w8 ⟨A8, c8, rfl, -, -, hb8⟩
                have HB8 := Lib.hid (HB7.out.trans (hb8.mono HB7.out.size))
                have cs' := cs w8 hb8
                clear co hb8 cs
                go_wp2_with fail
                (with_reducible refine cs'.mono ?_)
                rintro e w9 ⟨A10, c10, rfl, -, -, -, hb9⟩
                rw [HYL3.out]
                have HB9 := Lib.hid (HB8.out.trans (hb9.mono HB8.out.size))
                clear hb9 cs'
                go_wp2_with fail
                (with_reducible refine (caw w9).mono ?_)
                rintro e w10 ⟨rfl, hb10⟩
                have HB10 := Lib.hid (HB9.out.trans (hb10.mono HB9.out.size))
                clear hb10
                go_wp2_with fail
                go_ret
                exact ⟨rfl, HB10.out⟩
      · have hgz : ((g : Int) != 1) = true := by simp; omega
        obtain ⟨b', hb'⟩ : ∃ b', b' + 1 = b := ⟨b - 1, by omega⟩
        have hbb : (b : Int) - 1 = (b' : Int) := by omega
        go_wp2_with fail
        (with_reducible refine cg.mono ?_)
        rintro e w2 ⟨rfl, hbg⟩
        have HB2 := Lib.hid (HW.out.trans (hbg.mono HW.out.size))
        clear cg hbg
        go_wp2_with fail
        go_roundg (b')
        case measure => have := HBQ.out; omega
        case rel => exact ⟨b', by omega, by omega, Nat.le_refl _, rfl, HB2⟩
    · have h1z : ¬ (1 : Int) < (b : Int) := by omega
      have HBW := HW
      have HLIN := Lib.hid (lin hk2 hk31 hb1 hbk (by rw [show b = 1 by omega]; exact Nat.gcd_one_left k))
      obtain ⟨W, hW⟩ : ∃ W, W = wr := ⟨_, rfl⟩
      subst hW
      clear cg HW HG HBQ
      have HL0 := Lib.hid (LnS.start W k b)
      go_wp2_with fail
      go_loopg [8] (m) (fun q s8 wy => ∃ (i : Nat) (V : Nat → Value) (Q : Nat → List Int), i + q = m ∧ s8 = .int .i64 (i : Int) ∧ Hid (LnS W k b i V Q wy))
      case atStart => exact ⟨0, _, _, by omega, rfl, HL0⟩
      case round =>
        clear HL0
        obtain ⟨i, V, Q, hiq, rfl, HS⟩ := hrel
        have HIQ := Lib.hid hiq
        clear hiq
        by_cases hi : i + 1 < k
        · have hiz : (i : Int) + 1 < (k : Int) := by omega
          obtain ⟨P1, hP1⟩ : ∃ P1, P1 = i * b := ⟨_, rfl⟩
          obtain ⟨P2, hP2⟩ : ∃ P2, P2 = (i + 1) * b := ⟨_, rfl⟩
          have hp1l : P1 ≤ 961 := by rw [hP1]; exact Nat.le_trans (Nat.mul_le_mul (show i ≤ 31 by omega) (show b ≤ 31 by omega)) (by decide)
          have hp2l : P2 ≤ 961 := by rw [hP2]; exact Nat.le_trans (Nat.mul_le_mul (show i + 1 ≤ 31 by omega) (show b ≤ 31 by omega)) (by decide)
          have e1 : (i : Int) * (b : Int) = (P1 : Int) := by rw [hP1]; exact (Int.natCast_mul i b).symm
          have e2 : ((i : Int) + 1) * (b : Int) = (P2 : Int) := by rw [hP2, Int.natCast_mul]; rfl
          have e3 := tmod_nat P1 k
          have e4 := tmod_nat P2 k
          have hkne : ¬ (k : Int) = 0 := by omega
          have hkne2 : ((k : Int) == 0) = false := beq_eq_false_iff_ne.2 hkne
          have hr1 : P1 % k < k := Nat.mod_lt _ (by omega)
          have HR1 := Lib.hid (show P1 % k = i * b % k by rw [hP1])
          have HR2 := Lib.hid (show P2 % k = (i + 1) * b % k by rw [hP2])
          generalize P1 % k = R1 at *
          generalize P2 % k = R2 at *
          have hr1z : (R1 : Int) < (k : Int) := by omega
          have hcv := HS.out.row.cell hr1
          have hfz := HS.out.row.frozen R1
          have hlt := HS.out.row.lt
          clear hP1 hP2
          have HN := HS.out.round (R1 := R1) (R2 := R2) HLIN.out (by omega) HR1.out HR2.out
          go_wp2_with fail
          go_region
          all_goals
            go_wp2_with fail
            go_roundg (m - (i + 1))
            case measure => have := HIQ.out; have := HKM.out; omega
            case rel =>
              obtain ⟨V', Q', hN⟩ := HN
              exact ⟨i + 1, V', Q', by have := HIQ.out; have := HKM.out; omega, by go_num, Lib.hid hN⟩
        · have hib : i ≤ 31 := by have := HKM.out; have := HIQ.out; omega
          have hiz : decide ((i : Int) + 1 < (k : Int)) = false := decide_eq_false (by omega)
          have HSL := Lib.hid (show LnS W k b (k - 1) V Q wr by have := HS.out; rwa [show i = k - 1 by have := HKM.out; have := HIQ.out; omega] at this)
          have HLI := Lib.hid (HSL.out.line HLIN.out)
          have hlen : ((List.range k).map Q).length = k := by rw [List.length_map, List.length_range]
          have HLEN := Lib.hid hlen
          have co := order_any (k : Int) _ _ k wr (HSL.out.ll (by omega))
          rw [hlen, HLI.out.ord.1, HLI.out.ord.2] at co
          have HBR := Lib.hid (HBW.out.trans (HS.out.base.mono HBW.out.size))
          have HZA := Lib.hid (fun i (h : i < k) => lineO_at (b := b) h)
          have hZl := lineO_len k b
          have hkne : ¬ (k : Int) = 0 := by omega
          have hkne2 : ((k : Int) == 0) = false := beq_eq_false_iff_ne.2 hkne
          generalize iz (lineO k b k) = Z at *
          clear hlen HS HIQ
          go_wp2_with fail
          (with_reducible refine co.mono ?_)
          rintro e w3 ⟨A9, c9, rfl, -, h9, hb3⟩
          have H9 := Lib.hid h9
          have HB3 := Lib.hid (HBR.out.trans (hb3.mono HBR.out.size))
          have HS3 := Lib.hid (HSL.out.like hb3)
          have HZL := Lib.hid hZl
          rw [hZl]
          clear co h9 hb3 HSL hZl
          go_wp2_with fail
          go_loopg [11] (k) (fun q s11 wz => ∃ i : Nat, i + q = k ∧ s11 = .int .i64 (i : Int) ∧ Hid (Below w3.heap.size w3 wz))
          case atStart => exact ⟨0, by omega, rfl, Lib.hid (Below.refl _ _)⟩
          case round =>
            obtain ⟨j, hjq, rfl, HW⟩ := hrel
            have HJQ := Lib.hid hjq
            clear hjq
            by_cases hj : j < k
            · have hjz : (j : Int) < (k : Int) := by omega
              obtain ⟨b9, o9, rfl, hc⟩ := is_at (H9.out.below HW.out) (k := j) (by rw [HZL.out]; exact hj)
              obtain ⟨q, hq⟩ : ∃ q, q = k - 1 - j := ⟨_, rfl⟩
              obtain ⟨P, hP⟩ : ∃ P, P = q * b := ⟨_, rfl⟩
              have hPl : P ≤ 961 := by rw [hP]; exact Nat.le_trans (Nat.mul_le_mul (show q ≤ 31 by omega) (show b ≤ 31 by omega)) (by decide)
              have e0 : (m : Int) - (j : Int) = (q : Int) := by have := HKM.out; omega
              have e1 : (q : Int) * (b : Int) = (P : Int) := by rw [hP]; exact (Int.natCast_mul q b).symm
              have e3 := tmod_nat P k
              have hZj : Z[j]'(by rw [HZL.out]; exact hj) = ((P % k : Nat) : Int) := by
                have := HZA.out j hj
                rw [List.getElem?_eq_getElem (by rw [HZL.out]; exact hj), ← hq, ← hP] at this
                simpa using this
              rw [hZj] at hc
              clear hZj hP hq
              generalize P % k = R at *
              go_wp2_with fail
              go_quiet (fail)
              go_wp2_with fail
              go_roundg (k - (j + 1))
              case measure => have := HJQ.out; omega
              case rel => exact ⟨j + 1, by have := HJQ.out; omega, by go_num, Lib.hid (below_drw HW.out _)⟩
            · have hjz : ¬ (j : Int) < (k : Int) := by omega
              obtain ⟨P, hP⟩ : ∃ P, P = m * b := ⟨_, rfl⟩
              have hPl : P ≤ 961 := by rw [hP]; exact Nat.le_trans (Nat.mul_le_mul (show m ≤ 31 by have := HKM.out; omega) (show b ≤ 31 by omega)) (by decide)
              have e1 : (m : Int) * (b : Int) = (P : Int) := by rw [hP]; exact (Int.natCast_mul m b).symm
              have e3 := tmod_nat P k
              have hRk : P % k < k := Nat.mod_lt _ (by omega)
              have HRE := Lib.hid (show P % k = (k - 1) * b % k by rw [hP, show m = k - 1 by have := HKM.out; omega])
              generalize P % k = R at *
              have HS4 := Lib.hid (HS3.out.like HW.out)
              have HB4 := Lib.hid (HB3.out.trans (HW.out.mono HB3.out.size))
              have hba := below_alloc wr (.cells #[.int .i64 (R : Int)] 3)
              have cr := reach_any (k : Int) _ _ k (some ⟨wr.heap.size, 0, none⟩) [(R : Int)] 1 (wr.alloc (.cells #[.int .i64 (R : Int)] 3)) (Nat.le_of_eq HLEN.out) ((HS4.out.like hba).ll (by omega)) (by simp) (lit_is (lit_row wr [(R : Int)] (by intro z hz; rw [List.mem_singleton.1 hz]; omega) (by simp)))
              have hall : (reachI (k : Int) ((List.range k).map Q) [(R : Int)]).length = k := HLI.out.all (by rw [HRE.out]; exact List.mem_singleton.2 rfl)
              rw [HLEN.out, List.length_singleton] at cr
              generalize reachI (k : Int) ((List.range k).map Q) [(R : Int)] = Y at *
              have HYL := Lib.hid hall
              clear hP hba hall HW HZA HZL H9 HJQ
              go_wp2_with fail
              (with_reducible refine cr.mono ?_)
              rintro e w5 ⟨A5, c5, rfl, -, -, -, hb5⟩
              rw [HYL.out]
              have hb45 : Below wr.heap.size wr w5 := (below_alloc wr _).trans (hb5.mono (by rw [alloc_size]; omega))
              have HS5 := Lib.hid (HS4.out.like hb45)
              have HB5 := Lib.hid (HB4.out.trans (hb45.mono HB4.out.size))
              have hba := below_alloc w5 (.cells #[.int .i64 0] 3)
              have cr := reach_any (k : Int) _ _ k (some ⟨w5.heap.size, 0, none⟩) [0] 1 (w5.alloc (.cells #[.int .i64 0] 3)) (Nat.le_of_eq HLEN.out) ((HS5.out.like hba).ll (by omega)) (by decide) (lit_is (lit_row w5 [0] (by decide) (by decide)))
              have hone : (reachI (k : Int) ((List.range k).map Q) [0]).length = 1 := HLI.out.one
              rw [HLEN.out, List.length_singleton] at cr
              generalize reachI (k : Int) ((List.range k).map Q) [0] = Y2 at *
              have HYL2 := Lib.hid hone
              clear hb5 hb45 hba hone HS4
              go_wp2_with fail
              (with_reducible refine cr.mono ?_)
              rintro e w6 ⟨A6, c6, rfl, -, -, -, hb6⟩
              rw [HYL2.out]
              have hb56 : Below w5.heap.size w5 w6 := (below_alloc w5 _).trans (hb6.mono (by rw [alloc_size]; omega))
              have HS6 := Lib.hid (HS5.out.like hb56)
              have HB6 := Lib.hid (HB5.out.trans (hb56.mono HB5.out.size))
              have hcv := HS6.out.row.cell hRk
              have hfz := HS6.out.row.frozen R
              have hlt := HS6.out.row.lt
              have hRz : (R : Int) < (k : Int) := by omega
              obtain ⟨V7, Q7, hS7⟩ := HS6.out.shut HLIN.out HRE.out
              obtain ⟨w7, hw7⟩ : ∃ w7, (w6.setCell ⟨W.heap.size, R, none⟩ (.slice (some ⟨w6.heap.size, 0, none⟩) 1 1)).alloc (.cells #[.int .i64 0] 3) = w7 := ⟨_, rfl⟩
              rw [hw7] at hS7
              have HS7 := Lib.hid hS7
              have HLR := Lib.hid (hS7.ring HLIN.out)
              have HB7 := Lib.hid (show Below w.heap.size w w7 from HBW.out.trans (hS7.base.mono HBW.out.size))
              have hlen7 : ((List.range k).map Q7).length = k := by rw [List.length_map, List.length_range]
              have co := order_any (k : Int) _ _ k w7 (hS7.ll (by omega))
              rw [hlen7, HLR.out.stuck.1] at co
              have hsl := HLR.out.stuck.2
              have cs := fun (w8 : World) (h : Below w7.heap.size w7 w8) => stuck_any (k : Int) _ _ k w8 ((HS7.out.like h).ll (by omega))
              rw [hlen7] at cs
              generalize stuckI (k : Int) ((List.range k).map Q7) = Y3 at *
              generalize ordI (k : Int) ((List.range k).map Q7) = Y4 at *
              have HYL3 := Lib.hid hsl
              clear hb6 hb56 hS7 hsl hlen7 HS5
              go_wp2_with fail
              (with_reducible refine co.mono ?_)
              rintro e w8 ⟨A8, c8, rfl, -, -, hb8⟩
              have HB8 := Lib.hid (HB7.out.trans (hb8.mono HB7.out.size))
              have cs' := cs w8 hb8
              clear co hb8 cs
              go_wp2_with fail
              (with_reducible refine cs'.mono ?_)
              rintro e w9 ⟨A10, c10, rfl, -, -, -, hb9⟩
              rw [HYL3.out]
              have HB9 := Lib.hid (HB8.out.trans (hb9.mono HB8.out.size))
              clear hb9 cs'
              go_wp2_with fail
              (with_reducible refine (caw w9).mono ?_)
              rintro e w10 ⟨rfl, hb10⟩
              have HB10 := Lib.hid (HB9.out.trans (hb10.mono HB9.out.size))
              clear hb10
              go_wp2_with fail
              go_ret
              exact ⟨rfl, HB10.out⟩
end Go.Proofs.Ytbacphifmbjooaa
