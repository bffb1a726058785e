/- The document's example. -/
import Derived.Test.YtindkpfmflcibaaDoorMSsU
namespace Go.Proofs.YtindkpfmflcibaaDoor
open Go.RowKit Go.Maps Go.Sort Go.Shelf
set_option linter.unusedSimpArgs false

theorem two_ints (w : World) (a b : Int) (t : TypeId) : Is (w.alloc (.cells #[.int .i64 a, .int .i64 b] t)) (some ⟨w.heap.size, 0, none⟩) [a, b] := fun _ => by
  obtain ⟨c0, c1, -⟩ := two_new w (.int .i64 a) (.int .i64 b) t
  refine ⟨w.heap.size, 0, rfl, fun j hj => ?_⟩
  match j, hj with
  | 0, _ => exact c0
  | 1, _ => exact c1
theorem But2.low {a b B : Nat} {w w' : World} (h : But2 a b w w') (ha : w.heap.size ≤ a ∨ B ≤ a) (hb : B ≤ b) (hs : B ≤ w.heap.size) : Below B w w' :=
  ⟨h.os, h.tape, h.output, h.size, fun k hk => h.block k (by omega) (by omega) (by omega)⟩
set_option maxHeartbeats 4000000 in
set_option maxRecDepth 100000 in
theorem stawake_any (w : World) : Calls Tryd.prog 12 #[] w fun e w' => e = .returned (.bool true) ∧ Below w.heap.size w w' := by
  have e1 : cutM 2 = 2 := by decide
  have c1 := stnew_any 2 w
  rw [e1] at c1
  go_enter Tryd.func12, Tryd.ntmps12
  go_wp2_with fail
  refine c1.mono ?_
  rintro e w1 ⟨T, r, rfl, H1, hT, hr, hb1⟩
  have c2 := stopen_any T r 2 [] 3 w1 H1
  rw [show openS 2 3 [] = ((0, true), [newS 3]) by kernel_rfl] at c2
  dsimp only at c2
  have hs1 := hb1.size
  have HB1 := Lib.hid hb1
  clear hb1 c1
  go_wp2_with fail
  refine c2.mono ?_
  rintro e w2 ⟨rfl, H2, B2⟩
  have HB2 := Lib.hid (HB1.out.trans (B2.low (.inr hs1) hr hs1))
  have c3 := stopen_any T r 2 _ 5 w2 H2
  rw [show openS 2 5 [newS 3] = ((0, true), [newS 3, newS 5]) by kernel_rfl] at c3
  dsimp only at c3
  clear B2 c2
  go_wp2_with fail
  refine c3.mono ?_
  rintro e w3 ⟨rfl, H3, B3⟩
  have HB3 := Lib.hid (HB2.out.trans (B3.low (.inr HB2.out.size) hr HB2.out.size))
  have c4 := stuse_any T r 2 _ 3 9 w3 H3
  rw [show useS 3 9 [newS 3, newS 5] = (true, [useF 9 (newS 3), newS 5]) by kernel_rfl] at c4
  dsimp only at c4
  clear B3 c3
  go_wp2_with fail
  refine c4.mono ?_
  rintro e w4 ⟨rfl, H4, B4⟩
  have HB4 := Lib.hid (HB3.out.trans (B4.low (.inr HB3.out.size) hr HB3.out.size))
  have c5 := stopen_any T r 2 _ 11 w4 H4
  rw [show openS 2 11 [useF 9 (newS 3), newS 5] = ((5, true), [useF 9 (newS 3), newS 11]) by kernel_rfl] at c5
  dsimp only at c5
  clear B4 c4
  go_wp2_with fail
  refine c5.mono ?_
  rintro e w5 ⟨rfl, H5, B5⟩
  have HB5 := Lib.hid (HB4.out.trans (B5.low (.inr HB4.out.size) hr HB4.out.size))
  have c6 := stids_any T r 2 _ w5 H5
  rw [show List.map Se.id [useF 9 (newS 3), newS 11] = [3, 11] by kernel_rfl] at c6
  clear B5 c5
  go_wp2_with fail
  refine c6.mono ?_
  rintro e w6 ⟨A, cap, rfl, -, hI, -, -, hb6⟩
  have HB6 := Lib.hid (HB5.out.trans (hb6.mono HB5.out.size))
  have HI := Lib.hid hI
  clear hb6 c6 hI
  have c7 := Ss.same_any A (some ⟨w6.heap.size, 0, none⟩) [3, 11] [3, 11] cap 2 _ (by decide) (HI.out.below (Ss.below_alloc w6 (.cells #[.int .i64 3, .int .i64 11] 3))) (two_ints w6 3 11 3)
  go_wp2_with fail
  refine c7.mono ?_
  rintro e w7 ⟨rfl, hb7⟩
  have HB7 := Lib.hid (HB6.out.trans (((Ss.below_alloc w6 (.cells #[.int .i64 3, .int .i64 11] 3)).mono HB6.out.size).trans (hb7.mono (by have := HB6.out.size; simp; omega))))
  clear hb7 c7
  go_wp2_with fail
  go_ret
  exact ⟨rfl, HB7.out⟩
end Go.Proofs.YtindkpfmflcibaaDoor
