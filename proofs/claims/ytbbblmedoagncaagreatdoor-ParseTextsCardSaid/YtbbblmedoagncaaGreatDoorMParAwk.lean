/- palaverlaw07.awake. -/
import Derived.Test.YtbbblmedoagncaaGreatDoorGQ
namespace Go.Proofs.YtbbblmedoagncaaGreatDoor
open Go.RowKit

def awkE : Ex := .mk 14 0 [] [.mk 1 3 [] [], .mk 7 0 [] [.mk 1 1 [] [], .mk 9 0 [] [.mk 1 2 [] [], .mk 4 0 [120] []]]]
theorem awk_chk : chkB awkE = true := by rw [← chkC_eq]; decide +kernel
theorem awk_text : textE awkE = [40, 51, 32, 60, 32, 40, 49, 32, 43, 32, 40, 50, 32, 42, 32, 120, 41, 41, 41] := by
  first | kernel_rfl | decide +kernel
theorem awk_says : ∃ E, Says (⟨#[49, 43, 50, 42, 120, 32, 62, 32, 51]⟩ : ByteArray).data.toList (.ok E) ∧ chkB E = true ∧ textE E = [40, 51, 32, 60, 32, 40, 49, 32, 43, 32, 40, 50, 32, 42, 32, 120, 41, 41, 41] :=
  ⟨awkE, runC_says awake_tree, awk_chk, awk_text⟩
set_option maxHeartbeats 2000000 in
set_option maxRecDepth 100000 in
theorem awake_any (w : World) (hE : EnvP w) : Calls Tryz.prog 8 #[] w fun e w' => e = .returned (.bool true) ∧ Below w.heap.size w w' := by
  obtain ⟨E, hS, hC, hT⟩ := awk_says
  have c1 := parseF_any ⟨#[49, 43, 50, 42, 120, 32, 62, 32, 51]⟩ _ w (by decide) hE hS
  have c2 := fun w hE => parseF_any ⟨#[97, 32, 60, 32, 98, 32, 60, 32, 99]⟩ _ w (by decide) hE (outC_err awake_two)
  go_enter Tryz.func8, Tryz.ntmps8
  go_wp2_with fail
  refine c1.mono ?_
  rintro e w1 ⟨b1, op, n, z, ao, c, rfl, hx⟩
  have hb2 := below_alloc w1 (.cells #[.int .i64 op, .int .i64 n, .string z, .slice ao E.kids.length c] 24)
  have hF := four_new w1 (.int .i64 op) (.int .i64 n) (.string z) (.slice ao E.kids.length c) 24
  have hx2 := hx.later hb2
  have hB2 := below_to b1 hb2
  have c3 := c2 _ (hE.later hB2)
  obtain ⟨w2, hw2⟩ : ∃ w2, w1.alloc (.cells #[.int .i64 op, .int .i64 n, .string z, .slice ao E.kids.length c] 24) = w2 := ⟨_, rfl⟩
  rw [hw2] at hb2 hF hx2 hB2 c3
  have hF' := hF
  obtain ⟨-, y0, y1, y2, y3, -⟩ := hF'
  clear c1 c2 hx b1 hb2
  go_wp2_with fail
  refine c3.mono ?_
  rintro e w3 ⟨b3, rfl⟩
  have hb4 := below_alloc w3 (.cells #[.int .i64 0, .int .i64 0, .string ⟨#[]⟩, .slice none 0 0] 24)
  have hB4 := below_to (below_to hB2 b3) hb4
  have hx4 := (hx2.later b3).later hb4
  have hF4 := (hF.later b3).later hb4
  have c5 := ptext_any E _ _ _ (hE.later hB4) hx4
  rw [hC, if_pos rfl, hT] at c5
  have hF4' := hF4
  obtain ⟨-, y0, y1, y2, y3, -⟩ := hF4'
  clear c3 hF hx2 b3 hb4 hw2 hB2
  go_wp2_with fail
  refine c5.mono ?_
  rintro e w5 ⟨rfl, b5⟩
  have hB5 := below_to hB4 b5
  have c6 := pcheck_any E _ _ w5 (hE.later hB5) (hx4.later b5)
  rw [hC] at c6
  obtain ⟨-, y0, y1, y2, y3, -⟩ := hF4.later b5
  clear c5 hx4 hF4 b5
  go_wp2_with fail
  refine c6.mono ?_
  rintro e w6 ⟨rfl, b6⟩
  go_wp2_with fail
  go_ret
  exact ⟨rfl, below_to hB5 b6⟩
end Go.Proofs.YtbbblmedoagncaaGreatDoor
