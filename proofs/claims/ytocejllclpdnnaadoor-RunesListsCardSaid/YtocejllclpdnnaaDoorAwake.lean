/- The contract of the laws' first sentence (the chapter's examples): it is true; of what was in memory nothing turns. -/
import Derived.Test.YtocejllclpdnnaaDoorBack
namespace Go.Proofs.YtocejllclpdnnaaDoor
open Go.RowKit

theorem count_ex : Lib.runeCount ⟨#[97, 195, 169, 255]⟩ = 3 := by kernel_rfl
theorem back_ex : backL [97, 195, 169] = [195, 169, 97] := by kernel_rfl
theorem fold_ex : foldL [115, 116, 114, 97, 195, 159, 101, 32, 207, 131, 207, 130] = [83, 84, 82, 65, 195, 159, 69, 32, 206, 163, 206, 163] := by kernel_rfl

theorem class_ex (w : World) : Calls Tryd.prog 27 #[.int .i32 95] w fun e w' => e = .returned (.int .i64 1) ∧ w = w' := class_any 95 w
theorem count_w (w : World) : Calls Tryd.prog 17 #[.string ⟨#[97, 195, 169, 255]⟩] w fun e w' => e = .returned (.int .i64 3) ∧ Below w.heap.size w w' :=
  (count_any _ w (by decide)).mono fun _ _ ⟨he, hw⟩ => ⟨by rw [he, count_ex]; rfl, hw⟩
theorem back_w (w : World) (hT : Tabs w) : Calls Tryd.prog 25 #[.string ⟨#[97, 195, 169]⟩] w fun e w' => e = .returned (.string ⟨#[195, 169, 97]⟩) ∧ Below w.heap.size w w' :=
  (back_any _ w (by decide) hT).mono fun _ _ ⟨he, hw⟩ => ⟨by rw [he]; exact congrArg (fun l : List UInt8 => Ending.returned (.string ⟨l.toArray⟩)) back_ex, hw⟩
theorem fold_w (w : World) (hT : Tabs w) : Calls Tryd.prog 31 #[.string ⟨#[115, 116, 114, 97, 195, 159, 101, 32, 207, 131, 207, 130]⟩] w fun e w' => e = .returned (.string ⟨#[83, 84, 82, 65, 195, 159, 69, 32, 206, 163, 206, 163]⟩) ∧ Below w.heap.size w w' :=
  (fold_any _ w (by decide) hT).mono fun _ _ ⟨he, hw⟩ => ⟨by rw [he]; exact congrArg (fun l : List UInt8 => Ending.returned (.string ⟨l.toArray⟩)) fold_ex, hw⟩

set_option maxHeartbeats 400000 in
theorem awake_any (w : World) (hT : Tabs w) : Calls Tryd.prog 13 #[] w fun e w' => e = .returned (.bool true) ∧ Below w.heap.size w w' := by
  go_enter Tryd.func13, Tryd.ntmps13
  go_wp2_with fail
  refine (count_w _).mono ?_
  rintro e w1 ⟨rfl, b1⟩
  have hT1 := hT.later b1
  go_wp2_with fail
  refine (back_w _ hT1).mono ?_
  rintro e w2 ⟨rfl, b2⟩
  have hT2 := hT1.later b2
  have b12 := b1.trans (b2.mono b1.size)
  clear b1 b2 hT1
  go_wp2_with fail
  refine (fold_w _ hT2).mono ?_
  rintro e w3 ⟨rfl, b3⟩
  have b13 := b12.trans (b3.mono b12.size)
  clear b12 b3 hT2
  go_wp2_with fail
  refine (class_ex _).mono ?_
  rintro e w4 ⟨rfl, rfl⟩
  go_wp2
  go_ret
  exact ⟨rfl, b13⟩
end Go.Proofs.YtocejllclpdnnaaDoor
