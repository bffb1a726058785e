/- palaverlaw08.awake. -/
import Derived.Test.YtjmfpgalepahoaaGreatDoorMTyOf
import Derived.Test.YtjmfpgalepahoaaGreatDoorGQ
namespace Go.Proofs.YtjmfpgalepahoaaGreatDoor
open Go.RowKit

def tyE1 : Ex := .mk 14 0 [] [.mk 1 1 [] [], .mk 2 0 [97] []]
def tyE2 : Ex := .mk 4 0 [120] []
theorem ty_says1 : Says (⟨#[49, 32, 60, 32, 34, 97, 34]⟩ : ByteArray).data.toList (.ok tyE1) := runC_says (f := 60) (by kernel_rfl)
theorem ty_says2 : Says (⟨#[120]⟩ : ByteArray).data.toList (.ok tyE2) := runC_says (f := 60) (by kernel_rfl)
theorem ty_of1 : ofE [] [] tyE1 = .error 8 := by
  unfold ofE
  rw [show chkB tyE1 = true by rw [← chkC_eq]; decide +kernel]
  rfl
theorem ty_of2 : ofE [⟨#[120]⟩] [1] tyE2 = .ok 1 := by
  unfold ofE
  rw [show chkB tyE2 = true by rw [← chkC_eq]; decide +kernel]
  rfl
theorem els_one {α : Type} (f : α → Value) (d a : α) (w : World) (t : TypeId) : Els f d (w.alloc (.cells #[f a] t)) (some ⟨w.heap.size, 0, none⟩) [a] := fun _ =>
  ⟨w.heap.size, 0, rfl, fun j hj => by
    obtain rfl : j = 0 := by simp only [List.length_singleton] at hj; omega
    rw [cells_of_alloc]; rfl⟩
set_option maxHeartbeats 2000000 in
set_option maxRecDepth 100000 in
theorem tyawake_any (w : World) (hE : EnvP w) : Calls Tryz.prog 22 #[] w fun e w' => e = .returned (.bool true) ∧ Below w.heap.size w w' := by
  have c1 := parse_vals ⟨#[49, 32, 60, 32, 34, 97, 34]⟩ _ w (by decide) hE ty_says1
  have c2 := fun w hE => parse_vals ⟨#[120]⟩ _ w (by decide) hE ty_says2
  go_enter Tryz.func22, Tryz.ntmps22
  go_wp2_with fail
  refine c1.mono ?_
  rintro e w1 ⟨b1, op, n, z, ao, l, c, p, f, rfl, rfl, rfl, hx⟩
  have hb2 := below_alloc w1 (.cells #[.int .i64 op, .int .i64 n, .string z, .slice ao l c] 25)
  have hF := four_new w1 (.int .i64 op) (.int .i64 n) (.string z) (.slice ao l c) 25
  have hx2 := hx.later hb2
  have hB2 := below_to b1 hb2
  obtain ⟨w2, hw2⟩ : ∃ w2, w1.alloc (.cells #[.int .i64 op, .int .i64 n, .string z, .slice ao l c] 25) = w2 := ⟨_, rfl⟩
  rw [hw2] at hF hx2 hB2 hb2
  have c3 := c2 _ (hE.later hB2)
  clear c1 c2 hx b1 hb2
  go_wp2_with fail
  refine c3.mono ?_
  rintro e w3 ⟨b3, op2, n2, z2, ao2, l2, c2, p2, f2, rfl, rfl, rfl, hy⟩
  have hb4 := below_alloc w3 (.cells #[.int .i64 op2, .int .i64 n2, .string z2, .slice ao2 l2 c2] 25)
  have hG := four_new w3 (.int .i64 op2) (.int .i64 n2) (.string z2) (.slice ao2 l2 c2) 25
  have hx4 := (hx2.later b3).later hb4
  have hF4 := (hF.later b3).later hb4
  have hy4 := hy.later hb4
  have hB4 := below_to (below_to hB2 b3) hb4
  obtain ⟨w4, hw4⟩ : ∃ w4, w3.alloc (.cells #[.int .i64 op2, .int .i64 n2, .string z2, .slice ao2 l2 c2] 25) = w4 := ⟨_, rfl⟩
  rw [hw4] at hG hx4 hF4 hy4 hB4
  have c5 := types_any [] [] none none 0 0 (by decide) (by decide) tyE1 _ _ w4 (hE.later hB4) hx4 (Els.nil _ _) (Els.nil _ _)
  rw [ty_of1] at c5
  simp only [List.length_nil, tyV, tyN, tyF] at c5
  have HG := Lib.hid hG
  have HY := Lib.hid hy4
  have HB := Lib.hid hB4
  have HE := Lib.hid hE
  obtain ⟨-, y0, y1, y2, y3, -⟩ := hF4
  clear c3 hF hx2 b3 hb4 hw2 hB2 hx4 hy hG hy4 hB4 hE
  go_wp2_with fail
  refine c5.mono ?_
  rintro e w5 ⟨rfl, b5⟩
  have hB5 := below_to HB.out b5
  have hG5 := HG.out.later b5
  have hb6 := below_alloc w5 (.cells #[.string ⟨#[120]⟩] 9)
  have hN6 := els_one (fun s => Value.string s) ByteArray.empty ⟨#[120]⟩ w5 9
  have hs6 := alloc_size w5 (.cells #[.string ⟨#[120]⟩] 9)
  have hb7 := below_to hb6 (below_alloc (w5.alloc (.cells #[.string ⟨#[120]⟩] 9)) (.cells #[.int .i64 1] 3))
  have hZ7 := els_one (fun z => Value.int .i64 z) 0 1 (w5.alloc (.cells #[.string ⟨#[120]⟩] 9)) 3
  have hN7 := Els.below hN6 (below_alloc (w5.alloc (.cells #[.string ⟨#[120]⟩] 9)) (.cells #[.int .i64 1] 3))
  have hB7 := below_to hB5 hb7
  have hy7 := (HY.out.later b5).later hb7
  have c8 := types_any [⟨#[120]⟩] [1] _ _ 1 1 (by decide) (by decide) tyE2 _ _ _ (HE.out.later hB7) hy7 hN7 hZ7
  rw [ty_of2, hs6] at c8
  simp only [List.length_singleton, tyV, tyN, tyF] at c8
  have HB7 := Lib.hid hB7
  obtain ⟨-, x0, x1, x2, x3, -⟩ := hG5
  clear c5 y0 y1 y2 y3 hB5 hb6 hb7 hN6 hN7 hZ7 hB7 hy7 b5 hs6 hw4
  go_wp2_with fail
  refine c8.mono ?_
  rintro e w8 ⟨rfl, b8⟩
  clear c8
  go_wp2_with fail
  go_ret
  exact ⟨rfl, below_to HB7.out b8⟩
end Go.Proofs.YtjmfpgalepahoaaGreatDoor
