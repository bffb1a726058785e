/- Contracts of sum.eight: for every register it is eight steps. -/
import Derived.Test.YtmmclglbjjfcgaaProg
import Derived.Test.YtmmclglbjjfcgaaSumMath
import Derived.WalkMore
import Derived.LoopTactic
import Derived.WalkLawsBesides
import Derived.WalkSpells
import Derived.Below
import Derived.Lib.Hide
namespace Go.Proofs.Ytmmclglbjjfcgaa
open Go.RowKit

theorem ret_int {k : IntKind} {a b : Int} (h : a = b) : Ending.returned (.int k a) = .returned (.int k b) := by rw [h]

theorem and_one (y : BitVec 32) : bits .and .u32 (Z y) 1 = if y.getLsbD 0 then 1 else 0 := by
  have h := u32_and_nat y.toNat 1 y.isLt (by decide)
  have h2 : bits .and .u32 (Z y) 1 = ((y.toNat &&& 1 : Nat) : Int) := h
  rw [h2, Nat.and_one_is_mod]
  exact lsb_mod y
theorem st_yes {k : Nat} {x : BitVec 32} (h : (bits .and .u32 (Z (stN k x)) 1 == 1) = true) : bits .xor .u32 (Z (stN k x) / 2) 3988292384 = Z (stN (k + 1) x) := by
  rw [and_one] at h
  have hb : (stN k x).getLsbD 0 = true := by
    cases e : (stN k x).getLsbD 0
    · rw [e] at h; simp at h
    · rfl
  rw [Z_shr, Z_poly, Z_xor]
  show _ = Z (st (stN k x))
  unfold st; rw [if_pos hb]
theorem st_no {k : Nat} {x : BitVec 32} (h : (bits .and .u32 (Z (stN k x)) 1 == 1) = false) : Z (stN k x) / 2 = Z (stN (k + 1) x) := by
  rw [and_one] at h
  have hb : (stN k x).getLsbD 0 = false := by
    cases e : (stN k x).getLsbD 0
    · rfl
    · rw [e] at h; simp at h
  rw [Z_shr]
  show _ = Z (st (stN k x))
  unfold st; rw [hb]; rfl

set_option maxHeartbeats 400000 in
theorem eight_any (x : BitVec 32) (w : World) : Calls Try.prog 15 #[.int .u32 (Z x)] w fun e w' => e = .returned (.int .u32 (Z (stN 8 x))) ∧ w = w' := by
  go_enter Try.func15, Try.ntmps15
  go_wp2
  go_loop [0, 4] (fun r i => ∃ k : Nat, k ≤ 8 ∧ i = .int .i64 k ∧ r = .int .u32 (Z (stN k x))) (fun _ i => 8 - (intOf i).toNat)
  case atStart => exact ⟨0, Nat.zero_le _, rfl, rfl⟩
  case round =>
    obtain ⟨k, hk, rfl, rfl⟩ := hrel
    have hlo := Z_lo (stN k x)
    have hhi := Z_hi (stN k x)
    by_cases hlt : k < 8
    · go_wp2
      · have ht : (bits .and .u32 (Z (stN k x)) 1 == 1) = true := by assumption
        go_round
        case rel => exact ⟨k + 1, by omega, by go_num, by rw [st_yes ht]⟩
        case measure => simp [intOf]; omega
      · have ht : (bits .and .u32 (Z (stN k x)) 1 == 1) = false := by assumption
        go_round
        case rel => exact ⟨k + 1, by omega, by go_num, by rw [st_no ht]⟩
        case measure => simp [intOf]; omega
    · obtain rfl : k = 8 := by omega
      go_wp2
      go_ret
      exact ⟨rfl, rfl⟩
end Go.Proofs.Ytmmclglbjjfcgaa
