/- The laws' own awake: the chapter's examples are true. -/
import Derived.Test.YtfcigknalnmhcaaDoorVCaught
import Derived.Test.YtfcigknalnmhcaaDoorVShowP
namespace Go.Proofs.YtfcigknalnmhcaaDoor
open Go.RowKit

def strA : ByteArray := ⟨#[97]⟩
theorem checkA : checkB 3 0 [97] = true := by decide +kernel
theorem isA : Is (.iface 9 (.string strA)) 3 0 strA := ⟨Opens.text strA, checkA, by decide⟩
theorem boxA : boxV 3 0 strA = .iface 9 (.string strA) := by
  unfold boxV; rw [if_pos (show checkB 3 0 strA.data.toList = true from checkA)]; rfl
theorem properA (w : World) (hT : Tabs w) : Calls Tryd.prog 75 #[.iface 9 (.string strA)] w fun e w' => e = .returned (.iface 9 (.string strA)) ∧ Below w.heap.size w w' := by
  have := proper_text strA w (by decide) hT
  rwa [if_pos (show checkB 3 0 strA.data.toList = true from checkA)] at this
theorem intA (w : World) (hT : Tabs w) : Calls Tryd.prog 25 #[.iface 9 (.string strA)] w (Fell w 1 3) :=
  int_no _ _ 3 w (.inr ⟨_, _, rfl⟩) hT properA (fun w hT => kind_yes _ 3 0 strA isA w hT) (fallN _ _ (by decide))

theorem Fell.from {w w1 w' : World} {a b : Int} {e : Ending} (h : Fell w1 a b e w') (hb : Below w.heap.size w w1) : Fell w a b e w' := by
  obtain ⟨N, older, h1, h2, h3, h4, h5, h6, h7⟩ := h
  exact ⟨N, older, h1, h2, h3, Nat.le_trans hb.size h4, h5, h6, below_to hb h7⟩
set_option maxHeartbeats 1000000 in
theorem awake1_falls (w : World) (hT : Tabs w) : Calls Tryd.prog 43 #[] w (Fell w 1 3) := by
  have cB := box_any 3 0 strA w (by decide) hT
  rw [boxA] at cB
  have cI := fun w (hT : Tabs w) => intA w hT
  unfold strA at cB cI
  go_enter Tryd.func43, Tryd.ntmps43
  go_wp2_with fail
  refine cB.mono ?_
  rintro e w1 ⟨rfl, hb1⟩
  have hT1 := hT.later hb1
  clear cB
  go_wp2_with fail
  refine (cI _ hT1).mono ?_
  intro e w2 hf
  obtain ⟨N, older, rfl, hrest⟩ := hf.from hb1
  exact ⟨rfl, N, older, rfl, hrest⟩

def strQ : ByteArray := ⟨#[97, 34, 98]⟩
theorem quoteQ : showL 3 0 [97, 34, 98] = [34, 97, 92, 34, 98, 34] := by decide +kernel
set_option maxHeartbeats 1000000 in
set_option maxRecDepth 100000 in
theorem awake_any (w : World) (hE : Env w) : Calls Tryd.prog 12 #[] w fun e w' => e = .returned (.bool true) ∧ Below w.heap.size w w' := by
  have cC := caught_fell_awake 1 3 w (fun w1 hb => awake1_falls w1 (hE.tabs.later hb))
  have cS := fun w (hE : Env w) => show_any 3 0 strQ w (by decide) (by decide) (by decide) hE
  rw [show showL 3 0 strQ.data.toList = [34, 97, 92, 34, 98, 34] from quoteQ] at cS
  unfold strQ at cS
  go_enter Tryd.func12, Tryd.ntmps12
  go_wp2_with fail
  refine cC.mono ?_
  rintro e w1 ⟨rfl, hb1⟩
  have hb2 := hb1.alloc hb1.size (.cells #[.int .i64 1, .int .i64 3] 38)
  have hE2 := hE.later hb2
  clear cC
  go_wp2_with fail
  refine (cS _ hE2).mono ?_
  rintro e w2 ⟨rfl, hb3⟩
  clear cS
  go_wp2
  go_ret
  exact ⟨rfl, below_to hb2 hb3⟩
end Go.Proofs.YtfcigknalnmhcaaDoor
