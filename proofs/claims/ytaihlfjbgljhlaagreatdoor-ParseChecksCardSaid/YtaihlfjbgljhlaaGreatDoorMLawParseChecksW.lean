/- The statement ParseChecks: of any expression that has few enough parts the program's Check says what the document's own Check says. Conditions: none but what the card ties (the library's variables, and the table of forms, hold what their texts lay). -/
import Derived.Test.YtaihlfjbgljhlaaGreatDoorGR
import Derived.Test.YtaihlfjbgljhlaaGreatDoorMTree
import Derived.Test.YtaihlfjbgljhlaaGreatDoorGX
import Derived.Test.YtaihlfjbgljhlaaGreatDoorMRChk
import Derived.Test.YtaihlfjbgljhlaaGreatDoorGE
namespace Go.Proofs.YtaihlfjbgljhlaaGreatDoor
open Go.RowKit

set_option maxHeartbeats 8000000 in
set_option maxRecDepth 1000000 in
theorem parsechecks_walk (v : Value) (e : Ex) (w : World) (hv : ExIn w (fun _ => True) e v) (hE : EnvP w) :
    Calls Tryz.prog 3 #[v] w fun en w' => en = .returned (.bool true) ∧ Below w.heap.size w w' := by
  have cW := fun w' (hb : Below w.heap.size w w') => awake_any w' (hE.later hb)
  obtain ⟨ao, cap, rfl, -⟩ := hv.get
  have hX := four_new w (.int .i64 e.op) (.int .i64 e.num) (.string ⟨e.str.toArray⟩) (.slice ao e.kids.length cap) 24
  have hbX := below_alloc w (.cells #[.int .i64 e.op, .int .i64 e.num, .string ⟨e.str.toArray⟩, .slice ao e.kids.length cap] 24)
  have hvX := hv.later hbX
  obtain ⟨wX, hwX⟩ : ∃ wX, w.alloc (.cells #[.int .i64 e.op, .int .i64 e.num, .string ⟨e.str.toArray⟩, .slice ao e.kids.length cap] 24) = wX := ⟨_, rfl⟩
  rw [hwX] at hX hbX hvX
  have cT := tinyE_any e _ _ wX hvX
  have HX := Lib.hid hX
  have HV := Lib.hid hvX
  have HE := Lib.hid hE
  obtain ⟨-, x0, x1, x2, x3, -⟩ := hX
  clear hv hvX hE
  go_enter Tryz.func3, Tryz.ntmps3
  go_wp2_with fail
  refine cT.mono ?_
  rintro en w1 ⟨b, rfl, b1, hb⟩
  have hB1 := below_to hbX b1
  have HB := Lib.hid hb
  clear cT x0 x1 x2 x3 hwX hb
  cases b with
  | false =>
    have c2 := cW w1 hB1
    have HB1 := Lib.hid hB1
    clear cW hB1 b1 hbX
    go_wp2_with fail
    refine c2.mono ?_
    rintro en w2 ⟨rfl, b2⟩
    go_wp2_with fail
    go_ret
    exact ⟨rfl, below_to HB1.out b2⟩
  | true =>
    have hnd := HB.out rfl
    have hX1 := HX.out.later b1
    have hv1 := HV.out.later b1
    have HB1 := Lib.hid hB1
    clear b1 hbX hB1
    go_wp2_with fail
    refine wp_region_held_drew (S := fun w' => Below w1.heap.size w1 w') (by kernel_rfl) ((Below.refl _ _).drew) (fun hHeld => ?_)
    refine held_take (i := 0) (v := ?_) rfl (by kernel_rfl) (by kernel_rfl) (by kernel_rfl) (fun _ _ _ h => h) (by rfl) hHeld ?_ ?_
    rotate_left
    · intro wz hSz; obtain ⟨-, q0, q1, q2, q3, -⟩ := hX1.later hSz; go_simp; try with_reducible rfl
    simp only [Act.put, List.setIfInBounds_toArray, List.set_cons_zero, List.set_cons_succ]
    refine held_take (i := 3) (v := ?_) rfl (by kernel_rfl) (by kernel_rfl) (by kernel_rfl) (fun _ _ _ h => h) (by rfl) hHeld ?_ ?_
    rotate_left
    · intro wz hSz; obtain ⟨-, q0, q1, q2, q3, -⟩ := hX1.later hSz; go_simp; try with_reducible rfl
    simp only [Act.put, List.setIfInBounds_toArray, List.set_cons_zero, List.set_cons_succ]
    refine held_call (i := 1) (by kernel_rfl) rfl (by rfl) (by go_simp; try with_reducible rfl) (copy_any e _ _ _ (hv1.later hHeld) hnd.2 hnd.1) ?_
    rintro e wy ⟨hy, ao2, c2, rfl, hx2⟩
    refine ⟨_, rfl, below_to hHeld hy, ?_⟩
    replace hHeld := below_to hHeld hy
    simp only [Act.put, List.setIfInBounds_toArray, List.set_cons_zero, List.set_cons_succ]
    refine held_call (i := 2) (by kernel_rfl) rfl (by rfl) (by go_simp; try with_reducible rfl) (pcheck_any e _ _ _ (HE.out.later (below_to HB1.out hHeld)) hx2) ?_
    rintro e wy ⟨rfl, hy2⟩
    refine ⟨_, rfl, below_to hHeld hy2, ?_⟩
    replace hHeld := below_to hHeld hy2
    simp only [Act.put, List.setIfInBounds_toArray, List.set_cons_zero, List.set_cons_succ]
    refine held_call (i := 4) (by kernel_rfl) rfl (by rfl) (by go_simp; try with_reducible rfl) (rcheck_any e _ _ _ (HE.out.later (below_to HB1.out hHeld)) (hv1.later hHeld)) ?_
    rintro e wy ⟨rfl, hy3⟩
    refine ⟨_, rfl, below_to hHeld hy3, ?_⟩
    replace hHeld := below_to hHeld hy3
    simp only [Act.put, List.setIfInBounds_toArray, List.set_cons_zero, List.set_cons_succ]
    refine held_take (i := 5) (v := .bool true) rfl (by kernel_rfl) (by kernel_rfl) (by kernel_rfl) (fun _ _ _ h => h) (by rfl) hHeld ?_ ?_
    · intro wz hSz; (go_simp; first | done | rfl | simp)
    simp only [Act.put, List.setIfInBounds_toArray, List.set_cons_zero, List.set_cons_succ]
    refine held_take (i := 6) (v := ?_) rfl (by kernel_rfl) (by kernel_rfl) (by kernel_rfl) (fun _ _ _ h => h) (by rfl) hHeld ?_ ?_
    rotate_left
    · intro wz hSz; go_simp; try with_reducible rfl
    simp only [Act.put, List.setIfInBounds_toArray, List.set_cons_zero, List.set_cons_succ]
    refine held_call (i := 7) (by kernel_rfl) rfl (by rfl) (by go_simp; try with_reducible rfl) (cW _ (below_to HB1.out hHeld)) ?_
    rintro e wy ⟨rfl, hy4⟩
    refine ⟨_, rfl, below_to hHeld hy4, ?_⟩
    replace hHeld := below_to hHeld hy4
    simp only [Act.put, List.setIfInBounds_toArray, List.set_cons_zero, List.set_cons_succ]
    refine held_take (i := 8) (v := ?_) rfl (by kernel_rfl) (by kernel_rfl) (by kernel_rfl) (fun _ _ _ h => h) (by rfl) hHeld ?_ ?_
    rotate_left
    · intro wz hSz; go_simp; try with_reducible rfl
    simp only [Act.put, List.setIfInBounds_toArray, List.set_cons_zero, List.set_cons_succ]
    refine held_take (i := 9) (v := ?_) rfl (by kernel_rfl) (by kernel_rfl) (by kernel_rfl) (fun _ _ _ h => h) (by rfl) hHeld ?_ ?_
    rotate_left
    · intro wz hSz; go_simp; try with_reducible rfl
    simp only [Act.put, List.setIfInBounds_toArray, List.set_cons_zero, List.set_cons_succ]
    refine wpAnyH_done (by kernel_rfl) ?_ _
    have hBB := below_to HB1.out hHeld
    go_wp2_with fail
    go_ret
    exact ⟨rfl, hBB⟩
end Go.Proofs.YtaihlfjbgljhlaaGreatDoor
