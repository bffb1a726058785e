/- Who of a table was used longest ago. -/
import Derived.Test.YtindkpfmflcibaaGreatDoorMSsK
import Derived.Shelf.SlCmpFuncs.MinMaxFunc
import Derived.Sort.OwnSortedInts
namespace Go.Proofs.YtindkpfmflcibaaGreatDoor
open Go.RowKit Go.Maps Go.Sort Go.Shelf
set_option linter.unusedSimpArgs false

def usedOf (i : Int) (L : List Se) : Int := match findS i L with
  | none => 0
  | some s => s.used
def seqOf (i : Int) (L : List Se) : Int := match findS i L with
  | none => 0
  | some s => s.seq
def repOf (i : Int) (L : List Se) : Rp := match findS i L with
  | none => Rp.zero
  | some s => s.r
theorem valS_eq (i : Int) (L : List Se) : valS i L = .agg #[.int .i64 (usedOf i L), .int .i64 (seqOf i L), .int .i64 (repOf i L).e, .int .i64 (repOf i L).n, .int .i64 (repOf i L).K, .int .i64 (repOf i L).m, .string (repOf i L).s] := by
  unfold valS usedOf seqOf repOf
  cases findS i L <;> rfl
theorem stwithin_any (a n : Int) (w : World) : Calls Tryz.prog 30 #[.int .i64 a, .int .i64 n] w fun e w' => e = .returned (.bool (wi a n)) ∧ w' = w := by
  unfold wi
  by_cases h1 : a ≤ n
  · by_cases h2 : n ≤ 1099511627776
    · go_enter Tryz.func30, Tryz.ntmps30
      go_wp2
      go_ret
      simp [h1, h2]
    · go_enter Tryz.func30, Tryz.ntmps30
      go_wp2
      go_ret
      simp [h1, h2]
  · go_enter Tryz.func30, Tryz.ntmps30
    go_wp2
    go_ret
    simp [h1]
    try omega
theorem field_used (u q : Int) (r : Rp) (w : World) : (Instr.field 68 (.agg #[.int .i64 u, .int .i64 q, .int .i64 r.e, .int .i64 r.n, .int .i64 r.K, .int .i64 r.m, .string r.s]) 0).run Tryz.prog w = .ok (.int .i64 u) w := by
  kernel_rfl
set_option maxHeartbeats 2000000 in
set_option maxRecDepth 100000 in
theorem stqcmp_any (B T r : Nat) (L : List Se) (x y : Int) (w : World) (hB : w.cell? ⟨B, 0, none⟩ = some (.pointer (some ⟨T, 0, none⟩))) (hT : w.cell? ⟨T, 1, none⟩ = some (.map (some r))) (hm : MapT w r L) (hu : L.Pairwise fun a b => a.id < b.id) :
    Calls Tryz.prog 49 #[.int .i64 x, .int .i64 y, .pointer (some ⟨B, 0, none⟩)] w fun e w' => e = .returned (.int .i64 (Lib.compareInt (usedOf x L) (usedOf y L))) ∧ ∃ q, w' = w.drewN q := by
  have lx := lookupT1 (i := x) (hm.same (w' := w.drew) rfl) hu
  have ly := lookupT1 (i := y) (hm.same (w' := w.drew) rfl) hu
  simp only [valS_eq] at lx ly
  generalize usedOf x L = ux at *
  generalize usedOf y L = uy at *
  generalize seqOf x L = qx at *
  generalize seqOf y L = qy at *
  generalize repOf x L = rx at *
  generalize repOf y L = ry at *
  obtain ⟨ex, nx, kx, mx, sx⟩ := rx
  obtain ⟨ey, ny, ky, my, sy⟩ := ry
  dsimp only at lx ly
  have cc : ∀ W, Calls Tryz.prog 50 #[.int .i64 ux, .int .i64 uy] W fun e w' => e = .returned (.int .i64 (Lib.compareInt ux uy)) ∧ w' = W := fun W => Any.cmp_Compare_int Tryz.exact122 ux uy W
  clear hm hu
  go_enter Tryz.func49, Tryz.ntmps49
  go_wp2_with fail
  refine wp_region_still_lit (by kernel_rfl) (by kernel_rfl) ?_
  have fx := field_used ux qx ⟨ex, nx, kx, mx, sx⟩ w.drew
  have fy := field_used uy qy ⟨ey, ny, ky, my, sy⟩ w.drew
  dsimp only at fx fy
  repeat still_step
  still_call (cc _)
  repeat still_step
  refine wpStill_nil ?_
  go_wp2_with fail
  go_ret
  exact ⟨rfl, _, rfl⟩
theorem usedOf_at {L : List Se} (hu : L.Pairwise fun a b => a.id < b.id) {k : Nat} (hk : k < L.length) : usedOf L[k].id L = L[k].used := by
  unfold usedOf
  rw [findS_of hu (List.getElem_mem hk) rfl]
theorem compare_lt (a b : Int) : decide (Lib.compareInt a b < 0) = decide (a < b) := by
  unfold Lib.compareInt
  by_cases h : a < b
  · simp [h]
  · by_cases h2 : a > b
    · simp [h, h2]
    · simp [h, h2]
theorem pick_qk {L : List Se} (hu : L.Pairwise fun a b => a.id < b.id) : ∀ i, i < L.length → Lib.pickBy (fun x m => decide (Lib.compareInt (usedOf x L) (usedOf m L) < 0)) (L.map Se.id).toArray i = idAt L (qk L i)
  | 0, h => by
    unfold Lib.pickBy qk idAt
    rw [List.getElem?_eq_getElem h]
    simp [h]
  | i + 1, h => by
    have hi : i < L.length := by omega
    have hq := qk_lt (L := L) hi
    have e1 : (L.map Se.id).toArray[i + 1]! = L[i + 1].id := by simp [h]
    have e2 : idAt L (qk L i) = L[qk L i].id := by unfold idAt; rw [List.getElem?_eq_getElem hq]; rfl
    have e3 : usedAt L (i + 1) = L[i + 1].used := by unfold usedAt; rw [List.getElem?_eq_getElem h]; rfl
    have e4 : usedAt L (qk L i) = L[qk L i].used := by unfold usedAt; rw [List.getElem?_eq_getElem hq]; rfl
    unfold Lib.pickBy qk
    rw [pick_qk hu i hi, e1, e2, compare_lt, usedOf_at hu h, usedOf_at hu hq, e3, e4]
    by_cases hlt : L[i + 1].used < L[qk L i].used
    · rw [if_pos (decide_eq_true hlt), if_pos hlt]
      unfold idAt
      rw [List.getElem?_eq_getElem h]; rfl
    · rw [if_neg (by simpa using hlt), if_neg hlt, e2]
set_option maxHeartbeats 2000000 in
set_option maxRecDepth 100000 in
theorem stquietest_any (T r most : Nat) (L : List Se) (w : World) (h : Tab w T r most L) (h0 : 0 < L.length) :
    Calls Tryz.prog 31 #[.pointer (some ⟨T, 0, none⟩)] w fun e w' => e = .returned (.int .i64 (goneS L)) ∧ Below w.heap.size w w' := by
  have hb1 := Ss.below_alloc w (.cells #[.pointer (some ⟨T, 0, none⟩)] 23)
  have hB : (w.alloc (.cells #[.pointer (some ⟨T, 0, none⟩)] 23)).cell? ⟨w.heap.size, 0, none⟩ = some (.pointer (some ⟨T, 0, none⟩)) := by
    have e0 := (Go.MapKept.heap_alloc w (.cells #[.pointer (some ⟨T, 0, none⟩)] 23)).1
    unfold World.cell?
    rw [e0]
    rfl
  have hs1 : (w.alloc (.cells #[.pointer (some ⟨T, 0, none⟩)] 23)).heap.size = w.heap.size + 1 := by simp
  have h1 := h.later hb1
  have hTl := h.lt
  have hrl := h.m.lt
  obtain ⟨w1, hw1⟩ : ∃ w1, w.alloc (.cells #[.pointer (some ⟨T, 0, none⟩)] 23) = w1 := ⟨_, rfl⟩
  have ci := stids_any T r most L w1 (by rw [← hw1]; exact h1)
  have HW1 := Lib.hid hw1
  rw [hw1] at hb1 hB h1 hs1
  have H1 := Lib.hid h1
  have HB := Lib.hid hB
  have Hb1 := Lib.hid hb1
  have hb0 := hB
  clear h h1 hB hb1
  go_enter Tryz.func31, Tryz.ntmps31
  go_wp2_with fail
  refine ci.mono ?_
  rintro e w2 ⟨A, cap, rfl, hcap, -, -, hown, hb2⟩
  rcases hown.2 with ⟨hv, hz⟩ | ⟨g, cap', cur, hv, hbg, hg, hnc, hcm, hsz, htk⟩
  · rw [List.length_map] at hz; omega
  obtain ⟨rfl, rfl⟩ : A = some ⟨g, 0, none⟩ ∧ cap = cap' := by
    injection hv with a1 a2 a3
    exact ⟨a1, a3⟩
  have hgl : g < w2.heap.size := (Array.getElem?_eq_some_iff.1 hg).1
  have hlen : (L.map Se.id).length = L.length := List.length_map _
  have h64 : L.length ≤ 64 := Nat.le_trans H1.out.t.len H1.out.t.hi
  have h2 := H1.out.later hb2
  have hB2 : w2.cell? ⟨w.heap.size, 0, none⟩ = some (.pointer (some ⟨T, 0, none⟩)) := (hb2.cell (p := ⟨w.heap.size, 0, none⟩) (by show w.heap.size < _; omega)).trans hb0
  have hH : Holds encZ w2 g 0 (L.map Se.id).toArray := holds_of_blockI hg (by rw [Nat.mul_one] at htk; exact htk)
  have hcmp : Go.Proofs.CmpLays1 Tryz.prog 49 #[.pointer (some ⟨w.heap.size, 0, none⟩)] encZ (fun x y => Lib.compareInt (usedOf x L) (usedOf y L)) g 0 (L.map Se.id).toArray.size w2 := fun m os dk _ x y => by
    have hgr : w2.grownBy (sortWorld encZ w2 g 0 m dk os) (some g) := grownBy_sortedI (n := m) (os := os) dk
    have bl : ∀ k, k < w2.heap.size → k ≠ g → (sortWorld encZ w2 g 0 m dk os).heap[k]? = w2.heap[k]? := fun k hk hn => hgr.block k hk (by simp only [ne_eq, Option.some.injEq]; omega)
    have hs2 := hb2.size
    refine (stqcmp_any w.heap.size T r L x y _ ?_ ?_ (h2.m.same (bl r h2.m.lt (by omega))) h2.t.up).mono ?_
    · exact (World.cell?_of_block (w := w2) (a := ⟨w.heap.size, 0, none⟩) (bl _ (by show w.heap.size < _; omega) (by show w.heap.size ≠ g; omega))).trans hB2
    · exact (World.cell?_of_block (w := w2) (a := ⟨T, 1, none⟩) (bl _ (by show T < _; omega) (by show T ≠ g; omega))).trans h2.c1
    · rintro e w' ⟨he, q, hq⟩
      exact ⟨he, q, #[], by rw [hq, grow_empty]⟩
  have cm := Any.slices_MinFunc Tryz.minF encZ (fun _ => rfl) (fun x y => Lib.compareInt (usedOf x L) (usedOf y L)) 49 #[.pointer (some ⟨w.heap.size, 0, none⟩)] g 0 cap (L.map Se.id).toArray w2 (enters_of Tryz.func49 (by kernel_rfl) rfl) hcmp hH hgl (by simp; omega) (by simp; omega)
  rw [show (L.map Se.id).toArray.size = L.length by simp] at cm
  have ep := pick_qk h2.t.up (L.length - 1) (by omega)
  rw [ep] at cm
  change Calls Tryz.prog 48 _ _ _ at cm
  have HG := Lib.hid hbg
  have Hb2 := Lib.hid hb2
  rw [hlen]
  clear hcmp hH h2 hown hv hg hsz htk ep ci
  go_wp2_with fail
  refine cm.mono ?_
  rintro e w3 ⟨rfl, n, os, rfl⟩
  go_wp2_with fail
  go_ret
  refine ⟨rfl, ?_⟩
  have hbz := Hb1.out.trans (Hb2.out.mono (by omega))
  exact hbz.grown (grownBy_sortedI (n := n) (os := os) _) hbz.size fun j hj => by
    have := HG.out
    cases hj
    omega
end Go.Proofs.YtindkpfmflcibaaGreatDoor
