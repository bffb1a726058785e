/- Plain mathematics: two signs in a row, all of them. No program stands in this text. -/
import Derived.Test.YtophiadpafbahaaGreatDoorGQ
namespace Go.Proofs.YtophiadpafbahaaGreatDoor

def sgA : List (List UInt8) := [[124], [38], [61], [33, 61], [60], [60, 61], [43], [45], [42], [47], [37]]
def lnA : List Nat := [0, 1, 2, 2, 2, 2, 3, 3, 4, 4, 4]
def tightT (a b : Nat) : List UInt8 := [120, 32] ++ sgA.getD a [] ++ [32, 121, 32] ++ sgA.getD b [] ++ [32, 122]
def tightW (a b : Nat) : List UInt8 := if lnA.getD b 0 ≤ lnA.getD a 0 then [40, 40, 120, 32] ++ sgA.getD a [] ++ [32, 121, 41, 32] ++ sgA.getD b [] ++ [32, 122, 41] else [40, 120, 32] ++ sgA.getD a [] ++ [32, 40, 121, 32] ++ sgA.getD b [] ++ [32, 122, 41, 41]
def tightO (a b : Nat) : Option (Sum (Nat × Nat) (List UInt8)) := if lnA.getD a 0 = 2 ∧ lnA.getD b 0 = 2 then some (.inl (5 + (sgA.getD a []).length, 6)) else some (.inr (tightW a b))
theorem tight_all : ∀ a b : Fin 11, outC 60 (tightT a.val b.val) = tightO a.val b.val := by decide +kernel
end Go.Proofs.YtophiadpafbahaaGreatDoor
