/- Plain mathematics: just so deep, just so many parts. No program stands in this text. -/
import Derived.Test.YtophiadpafbahaaGreatDoorGQ
namespace Go.Proofs.YtophiadpafbahaaGreatDoor

def bangs : Nat → List UInt8
  | 0 => []
  | n + 1 => bangs n ++ [33]
def deepT (n : Nat) : List UInt8 := bangs n ++ [116, 114, 117, 101]
theorem deep_text : ∀ n : Fin 40, outC 300 (deepT n.val) = if n.val + 1 ≤ 24 then some (.inr (deepT n.val)) else some (.inl (0, 7)) := by decide +kernel
theorem bangs_len : ∀ n, (bangs n).length = n
  | 0 => rfl
  | n + 1 => by rw [bangs, List.length_append, bangs_len n]; rfl
def wideE : Nat → Ex
  | 0 => .mk 1 0 [] []
  | i + 1 => if i % 4 = 3 ∧ nodes (wideE i) < 200 then .mk 7 0 [] [wideE i, wideE i] else .mk 5 0 [] [wideE i]
theorem wide_two {i : Nat} (h : i % 4 = 3 ∧ nodes (wideE i) < 200) : wideE (i + 1) = .mk 7 0 [] [wideE i, wideE i] ∧ nodes (wideE (i + 1)) = 2 * nodes (wideE i) + 1 := by
  have e : wideE (i + 1) = .mk 7 0 [] [wideE i, wideE i] := by rw [wideE, if_pos h]
  refine ⟨e, ?_⟩
  rw [e, nodes, nodesL, nodesL, nodesL]; omega
theorem wide_one {i : Nat} (h : ¬ (i % 4 = 3 ∧ nodes (wideE i) < 200)) : wideE (i + 1) = .mk 5 0 [] [wideE i] ∧ nodes (wideE (i + 1)) = nodes (wideE i) + 1 := by
  have e : wideE (i + 1) = .mk 5 0 [] [wideE i] := by rw [wideE, if_neg h]
  refine ⟨e, ?_⟩
  rw [e, nodes, nodesL, nodesL] <;> omega
theorem wide_all : ∀ i, nodes (wideE i) ≤ 399 + i ∧ deepE (wideE i) = i + 1 ∧ allB (wideE i) = true
  | 0 => ⟨by rw [wideE, nodes, nodesL] <;> omega, by rw [wideE, deepE, deepL], by rw [wideE, allB, allBL]; rfl⟩
  | i + 1 => by
    obtain ⟨h1, h2, h3⟩ := wide_all i
    by_cases h : i % 4 = 3 ∧ nodes (wideE i) < 200
    · obtain ⟨e, hn⟩ := wide_two h
      refine ⟨by omega, ?_, ?_⟩
      · rw [e, deepE, deepL, deepL, deepL, h2]; omega
      · rw [e, allB, allBL, allBL, allBL, h3]; rfl
    · obtain ⟨e, hn⟩ := wide_one h
      refine ⟨by omega, ?_, ?_⟩
      · rw [e, deepE, deepL, deepL, h2]; omega
      · rw [e, allB, allBL, allBL, h3]; rfl
theorem wide_chk (i : Nat) : chkB (wideE i) = (decide (nodes (wideE i) ≤ 128) && decide (i + 1 ≤ 24)) := by
  obtain ⟨h1, h2, h3⟩ := wide_all i
  unfold chkB
  rw [h2, h3, Bool.and_true]
end Go.Proofs.YtophiadpafbahaaGreatDoor
