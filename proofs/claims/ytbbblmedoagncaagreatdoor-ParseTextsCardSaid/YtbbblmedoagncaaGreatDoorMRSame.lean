/- palaverref07.Same: one expression at two places. -/
import Derived.Test.YtbbblmedoagncaaGreatDoorGW
import Derived.Test.YtbbblmedoagncaaGreatDoorGL
import Derived.Test.YtbbblmedoagncaaGreatDoorGE
import Derived.Deep.LoopGhost
namespace Go.Proofs.YtbbblmedoagncaaGreatDoor
open Go.RowKit
theorem ExIn.stays2 {w w' : World} {S : Nat → Prop} {e : Ex} {v : Value} (h : ExIn w S e v) (hb : Below w.heap.size w w') : ExIn w' S e v := h.later hb
set_option maxHeartbeats 4000000 in
set_option maxRecDepth 100000 in
theorem rsame_main (op n : Int) (s : List UInt8) (ks : List Ex) (va vb : Value) (S T : Nat → Prop) (w : World) (ha : ExIn w S (.mk op n s ks) va) (hb : ExIn w T (.mk op n s ks) vb)
    (IH : ∀ e ∈ ks, ∀ (va vb : Value) (S T : Nat → Prop) (w : World), ExIn w S e va → ExIn w T e vb → Calls Tryz.prog 17 #[va, vb] w fun e w' => e = .returned (.bool true) ∧ Below w.heap.size w w') :
    Calls Tryz.prog 17 #[va, vb] w fun e w' => e = .returned (.bool true) ∧ Below w.heap.size w w' := by
  obtain ⟨ao, ac, rfl, -, hln, -, hka⟩ := ha.get
  obtain ⟨bo, bc, rfl, -, -, -, hkb⟩ := hb.get
  change ks.length ≤ _ at hln
  replace hka : 0 < ks.length → ∃ g o, ao = some ⟨g, o, none⟩ ∧ S g ∧ g < w.heap.size ∧ RowIn w S g o ks := hka
  replace hkb : 0 < ks.length → ∃ g o, bo = some ⟨g, o, none⟩ ∧ T g ∧ g < w.heap.size ∧ RowIn w T g o ks := hkb
  change Calls _ _ #[EV op n ⟨s.toArray⟩ (.slice ao ks.length ac), EV op n ⟨s.toArray⟩ (.slice bo ks.length bc)] w _
  have d1 := below_alloc w (.cells #[.int .i64 op, .int .i64 n, .string ⟨s.toArray⟩, .slice ao ks.length ac] 24)
  have f1 := four_new w (.int .i64 op) (.int .i64 n) (.string ⟨s.toArray⟩) (.slice ao ks.length ac) 24
  have z1 := alloc_size w (.cells #[.int .i64 op, .int .i64 n, .string ⟨s.toArray⟩, .slice ao ks.length ac] 24)
  have d2 := below_alloc (w.alloc (.cells #[.int .i64 op, .int .i64 n, .string ⟨s.toArray⟩, .slice ao ks.length ac] 24)) (.cells #[.int .i64 op, .int .i64 n, .string ⟨s.toArray⟩, .slice bo ks.length bc] 24)
  have f2 := four_new (w.alloc (.cells #[.int .i64 op, .int .i64 n, .string ⟨s.toArray⟩, .slice ao ks.length ac] 24)) (.int .i64 op) (.int .i64 n) (.string ⟨s.toArray⟩) (.slice bo ks.length bc) 24
  have z2 := alloc_size (w.alloc (.cells #[.int .i64 op, .int .i64 n, .string ⟨s.toArray⟩, .slice ao ks.length ac] 24)) (.cells #[.int .i64 op, .int .i64 n, .string ⟨s.toArray⟩, .slice bo ks.length bc] 24)
  rw [z1] at f2 z2
  have f1' := f1.later d2
  have d12 := below_to d1 d2
  obtain ⟨w2, hw2⟩ : ∃ x, (w.alloc (.cells #[.int .i64 op, .int .i64 n, .string ⟨s.toArray⟩, .slice ao ks.length ac] 24)).alloc (.cells #[.int .i64 op, .int .i64 n, .string ⟨s.toArray⟩, .slice bo ks.length bc] 24) = x := ⟨_, rfl⟩
  rw [hw2] at f2 z2 f1' d12
  have HA := Lib.hid f1'
  have HB := Lib.hid f2
  have HD := Lib.hid d12
  have HKA := Lib.hid hka
  have HKB := Lib.hid hkb
  have HIH := Lib.hid IH
  obtain ⟨-, a0, a1, a2, a3, -⟩ := f1'
  obtain ⟨-, b0, b1, b2, b3, -⟩ := f2
  generalize (⟨s.toArray⟩ : ByteArray) = SS at *
  have hss : (SS.toList == SS.toList) = true := by simp
  have hsn : (SS.toList != SS.toList) = false := by simp
  have hst : Hid (Below w2.heap.size w2 w2) := Lib.hid (Below.refl _ _)
  clear ha hb f1 d1 z1 d2 d12 hka hkb IH
  go_enter Tryz.func17, Tryz.ntmps17
  go_wp2_with fail
  go_loopg [5] (ks.length) (fun a si wr => ∃ j : Nat, j + a = ks.length ∧ si = .int .i64 (j : Int) ∧ Hid (Below w2.heap.size w2 wr))
  case atStart => exact ⟨0, by omega, rfl, hst⟩
  case round =>
    clear hst
    obtain ⟨j, hja, rfl, HW⟩ := hrel
    have HJ := Lib.hid hja
    have hAr := HA.out.later HW.out
    have hBr := HB.out.later HW.out
    have hAl := hAr.lt
    have hBl := hBr.lt
    obtain ⟨-, a0, a1, a2, a3, -⟩ := hAr
    obtain ⟨-, b0, b1, b2, b3, -⟩ := hBr
    by_cases hjk : j < ks.length
    · have hjz : (j : Int) < (ks.length : Int) := by omega
      obtain ⟨g1, o1, rfl, -, hg1, hr1⟩ := HKA.out (by omega)
      obtain ⟨g2, o2, rfl, -, hg2, hr2⟩ := HKB.out (by omega)
      have hx : ks[j]? = some ks[j] := List.getElem?_eq_getElem hjk
      obtain ⟨u0, u1, u2, u3, c0, c1, c2, c3, he⟩ := hr1.at hx
      obtain ⟨v0, v1, v2, v3, e0, e1, e2, e3, he2⟩ := hr2.at hx
      have hww := HD.out.trans (HW.out.mono HD.out.size)
      have cI : ∀ w', Below wr.heap.size wr w' → Calls Tryz.prog 17 #[.agg #[u0, u1, u2, u3], .agg #[v0, v1, v2, v3]] w' fun e w'' => e = .returned (.bool true) ∧ Below w'.heap.size w' w'' := fun w' h =>
        HIH.out ks[j] (List.getElem_mem hjk) _ _ S T w' (he.stays2 (hww.trans (h.mono hww.size))) (he2.stays2 (hww.trans (h.mono hww.size)))
      have k0 := (hww.cell (p := ⟨g1, o1 + j * 4, none⟩) hg1).trans c0
      have k1 := (hww.cell (p := ⟨g1, o1 + j * 4 + 1, none⟩) hg1).trans c1
      have k2 := (hww.cell (p := ⟨g1, o1 + j * 4 + 2, none⟩) hg1).trans c2
      have k3 := (hww.cell (p := ⟨g1, o1 + j * 4 + 3, none⟩) hg1).trans c3
      have l0 := (hww.cell (p := ⟨g2, o2 + j * 4, none⟩) hg2).trans e0
      have l1 := (hww.cell (p := ⟨g2, o2 + j * 4 + 1, none⟩) hg2).trans e1
      have l2 := (hww.cell (p := ⟨g2, o2 + j * 4 + 2, none⟩) hg2).trans e2
      have l3 := (hww.cell (p := ⟨g2, o2 + j * 4 + 3, none⟩) hg2).trans e3
      have hg1r : g1 < wr.heap.size := Nat.lt_of_lt_of_le hg1 hww.size
      have hg2r : g2 < wr.heap.size := Nat.lt_of_lt_of_le hg2 hww.size
      clear hja he he2 c0 c1 c2 c3 e0 e1 e2 e3 hr1 hr2 hx
      have HWW := Lib.hid hww
      clear hww
      go_wp2_with fail
      refine wp_region_held_drew (S := fun w' => Below wr.heap.size wr w') (by kernel_rfl) ((Below.refl _ _).drew) (fun hHeld => ?_)
      refine held_take (i := 0) (v := ?_) rfl (by kernel_rfl) (by kernel_rfl) (by kernel_rfl) (fun _ _ _ h => h) (by rfl) hHeld ?_ ?_
      rotate_left
      · intro wz hSz; go_simp; try with_reducible rfl
      simp only [Act.put, List.setIfInBounds_toArray, List.set_cons_zero, List.set_cons_succ]
      refine held_take (i := 1) (v := ?_) rfl (by kernel_rfl) (by kernel_rfl) (by kernel_rfl) (fun _ _ _ h => h) (by rfl) hHeld ?_ ?_
      rotate_left
      · intro wz hSz; have q0 := (hSz.cell (p := ⟨w.heap.size, 3, none⟩) hAl).trans a3; go_simp; try with_reducible rfl
      simp only [Act.put, List.setIfInBounds_toArray, List.set_cons_zero, List.set_cons_succ]
      refine held_take (i := 2) (v := ?_) rfl (by kernel_rfl) (by kernel_rfl) (by kernel_rfl) (fun _ _ _ h => h) (by rfl) hHeld ?_ ?_
      rotate_left
      · intro wz hSz; go_simp; try with_reducible rfl
      simp only [Act.put, List.setIfInBounds_toArray, List.set_cons_zero, List.set_cons_succ]
      refine held_take (i := 3) (v := ?_) rfl (by kernel_rfl) (by kernel_rfl) (by kernel_rfl) (fun _ _ _ h => h) (by rfl) hHeld ?_ ?_
      rotate_left
      · intro wz hSz; go_simp; try with_reducible rfl
      simp only [Act.put, List.setIfInBounds_toArray, List.set_cons_zero, List.set_cons_succ]
      refine held_take (i := 4) (v := ?_) rfl (by kernel_rfl) (by kernel_rfl) (by kernel_rfl) (fun _ _ _ h => h) (by rfl) hHeld ?_ ?_
      rotate_left
      · intro wz hSz; have q0 := (hSz.cell (p := ⟨g1, o1 + j * 4, none⟩) hg1r).trans k0; have q1 := (hSz.cell (p := ⟨g1, o1 + j * 4 + 1, none⟩) hg1r).trans k1; have q2 := (hSz.cell (p := ⟨g1, o1 + j * 4 + 2, none⟩) hg1r).trans k2; have q3 := (hSz.cell (p := ⟨g1, o1 + j * 4 + 3, none⟩) hg1r).trans k3; go_simp; try with_reducible rfl
      simp only [Act.put, List.setIfInBounds_toArray, List.set_cons_zero, List.set_cons_succ]
      refine held_take (i := 5) (v := ?_) rfl (by kernel_rfl) (by kernel_rfl) (by kernel_rfl) (fun _ _ _ h => h) (by rfl) hHeld ?_ ?_
      rotate_left
      · intro wz hSz; go_simp; try with_reducible rfl
      simp only [Act.put, List.setIfInBounds_toArray, List.set_cons_zero, List.set_cons_succ]
      refine held_take (i := 6) (v := ?_) rfl (by kernel_rfl) (by kernel_rfl) (by kernel_rfl) (fun _ _ _ h => h) (by rfl) hHeld ?_ ?_
      rotate_left
      · intro wz hSz; have q0 := (hSz.cell (p := ⟨w.heap.size + 1, 3, none⟩) hBl).trans b3; go_simp; try with_reducible rfl
      simp only [Act.put, List.setIfInBounds_toArray, List.set_cons_zero, List.set_cons_succ]
      refine held_take (i := 7) (v := ?_) rfl (by kernel_rfl) (by kernel_rfl) (by kernel_rfl) (fun _ _ _ h => h) (by rfl) hHeld ?_ ?_
      rotate_left
      · intro wz hSz; go_simp; try with_reducible rfl
      simp only [Act.put, List.setIfInBounds_toArray, List.set_cons_zero, List.set_cons_succ]
      refine held_take (i := 8) (v := ?_) rfl (by kernel_rfl) (by kernel_rfl) (by kernel_rfl) (fun _ _ _ h => h) (by rfl) hHeld ?_ ?_
      rotate_left
      · intro wz hSz; go_simp; try with_reducible rfl
      simp only [Act.put, List.setIfInBounds_toArray, List.set_cons_zero, List.set_cons_succ]
      refine held_take (i := 9) (v := ?_) rfl (by kernel_rfl) (by kernel_rfl) (by kernel_rfl) (fun _ _ _ h => h) (by rfl) hHeld ?_ ?_
      rotate_left
      · intro wz hSz; have q0 := (hSz.cell (p := ⟨g2, o2 + j * 4, none⟩) hg2r).trans l0; have q1 := (hSz.cell (p := ⟨g2, o2 + j * 4 + 1, none⟩) hg2r).trans l1; have q2 := (hSz.cell (p := ⟨g2, o2 + j * 4 + 2, none⟩) hg2r).trans l2; have q3 := (hSz.cell (p := ⟨g2, o2 + j * 4 + 3, none⟩) hg2r).trans l3; go_simp; try with_reducible rfl
      simp only [Act.put, List.setIfInBounds_toArray, List.set_cons_zero, List.set_cons_succ]
      refine held_call (i := 10) (by kernel_rfl) rfl (by rfl) (by go_simp; try with_reducible rfl) (cI _ hHeld) ?_
      rintro e wy ⟨rfl, hy⟩
      refine ⟨_, rfl, below_to hHeld hy, ?_⟩
      replace hHeld := below_to hHeld hy
      simp only [Act.put, List.setIfInBounds_toArray, List.set_cons_zero, List.set_cons_succ]
      refine held_take (i := 11) (v := ?_) rfl (by kernel_rfl) (by kernel_rfl) (by kernel_rfl) (fun _ _ _ h => h) (by rfl) hHeld ?_ ?_
      rotate_left
      · intro wz hSz; go_simp; try with_reducible rfl
      simp only [Act.put, List.setIfInBounds_toArray, List.set_cons_zero, List.set_cons_succ]
      refine wpAnyH_done (by kernel_rfl) ?_ _
      have HB2 := Lib.hid (HW.out.trans (hHeld.mono HW.out.size))
      clear hHeld k0 k1 k2 k3 l0 l1 l2 l3 cI
      go_wp2_with fail
      go_roundg (ks.length - (j + 1))
      case measure => have := HJ.out; omega
      case rel => exact ⟨j + 1, by have := HJ.out; omega, by go_num, HB2⟩
    · have hjz : ¬ (j : Int) < (ks.length : Int) := by omega
      clear hja
      go_wp2_with fail
      go_ret
      exact ⟨rfl, HD.out.trans (HW.out.mono HD.out.size)⟩
theorem rsame_all : ∀ (F : Nat) (e : Ex), nodes e ≤ F → ∀ (va vb : Value) (S T : Nat → Prop) (w : World), ExIn w S e va → ExIn w T e vb →
    Calls Tryz.prog 17 #[va, vb] w fun e w' => e = .returned (.bool true) ∧ Below w.heap.size w w'
  | 0, e, hF, _, _, _, _, _, _, _ => absurd hF (by have := nodes_pos e; omega)
  | F + 1, .mk op n s ks, hF, va, vb, S, T, w, ha, hb => rsame_main op n s ks va vb S T w ha hb (fun e he => rsame_all F e (by
      have := nodes_kid he
      rw [nodes] at hF; omega))
/-- palaverref07.Same: of one expression at two places. -/
theorem rsame_any (e : Ex) (va vb : Value) (S T : Nat → Prop) (w : World) (ha : ExIn w S e va) (hb : ExIn w T e vb) :
    Calls Tryz.prog 17 #[va, vb] w fun e w' => e = .returned (.bool true) ∧ Below w.heap.size w w' := rsame_all _ e (Nat.le_refl _) va vb S T w ha hb
end Go.Proofs.YtbbblmedoagncaaGreatDoor
