/- The contracts of the document's own digits and Dec. -/
import Derived.Test.YtbbblmedoagncaaGreatDoorGB
import Derived.Lib.ItoaLen
namespace Go.Proofs.YtbbblmedoagncaaGreatDoor
open Go.RowKit Go.Lib

theorem one_digit : ∀ d : Fin 10, (⟨#[48, 49, 50, 51, 52, 53, 54, 55, 56, 57]⟩ : ByteArray).extract d.val (d.val + 1) = ⟨#[UInt8.ofNat (48 + d.val)]⟩ := by decide +kernel
theorem dec_len (u : Nat) (h : u < 18446744073709551616) : (decDigits u).length ≤ 20 := by rw [decDigits_length]; exact nDigits_le20 u h
theorem app_front (d : UInt8) (acc : List UInt8) : (⟨#[d]⟩ : ByteArray) ++ (⟨acc.toArray⟩ : ByteArray) = ⟨(d :: acc).toArray⟩ := by apply ByteArray.ext; simp
set_option maxHeartbeats 2000000 in
set_option maxRecDepth 100000 in
theorem digits_any (u : Nat) (w : World) (h : u < 18446744073709551616) : Calls Tryz.prog 80 #[.int .u64 (u : Int)] w fun e w' => e = .returned (.string ⟨(decDigits u).toArray⟩) ∧ w = w' := by
  go_enter Tryz.func80, Tryz.ntmps80
  go_wp2_with fail
  go_loop [0, 3] (fun uv sv => ∃ v : Nat, ∃ acc : List UInt8, v ≤ u ∧ uv = .int .u64 (v : Int) ∧ sv = .string ⟨acc.toArray⟩ ∧ decDigits v ++ acc = decDigits u) (fun uv _ => (Go.RowKit.intOf uv).toNat)
  case atStart => exact ⟨u, [], Nat.le_refl _, rfl, rfl, by simp⟩
  case round =>
    obtain ⟨v, acc, hv, rfl, rfl, happ⟩ := hrel
    have hal : acc.length ≤ 20 := by
      have h1 := dec_len u h
      have h2 := congrArg List.length happ
      rw [List.length_append] at h2; omega
    have hov : ¬ 9223372036854775807 < 1 + acc.length := by omega
    have HAP := Lib.hid happ
    clear happ
    by_cases h10 : 10 ≤ v
    · have hz : (10 : Int) ≤ (v : Int) := by omega
      have hd := one_digit ⟨v % 10, Nat.mod_lt _ (by omega)⟩
      dsimp only at hd
      go_wp2_with fail
      have e8 : UInt8.ofNat (48 + v % 10) = 48 + UInt8.ofNat (v % 10) := by simp
      refine ⟨⟨v / 10, (48 + UInt8.ofNat (v % 10)) :: acc, by omega, by simp, rfl, ?_⟩, by simp only [Go.RowKit.intOf]; omega⟩
      rw [← HAP.out, decDigits_big v h10, e8]; simp
    · have hz : ¬ (10 : Int) ≤ (v : Int) := by omega
      have hd := one_digit ⟨v, by omega⟩
      dsimp only at hd
      have e8 : UInt8.ofNat (48 + v) = 48 + UInt8.ofNat v := by simp
      have hdd : (⟨#[48 + UInt8.ofNat v]⟩ : ByteArray) ++ (⟨acc.toArray⟩ : ByteArray) = ⟨(decDigits u).toArray⟩ := by
        rw [app_front, ← HAP.out, decDigits_one (by omega), e8]; rfl
      have HDD := Lib.hid hdd
      clear hdd e8
      go_wp2_with fail
      go_ret
      exact ⟨congrArg (fun b => Ending.returned (Value.string b)) HDD.out, rfl⟩
set_option maxHeartbeats 1000000 in
set_option maxRecDepth 100000 in
theorem dec_any (n : Int) (w : World) (n0 : -9223372036854775808 ≤ n) (n1 : n ≤ 9223372036854775807) : Calls Tryz.prog 36 #[.int .i64 n] w fun e w' => e = .returned (.string ⟨(itoa n).toArray⟩) ∧ w = w' := by
  by_cases hn : n < 0
  · obtain ⟨u, rfl⟩ : ∃ u : Nat, n = -(u : Int) := ⟨n.natAbs, by omega⟩
    have c := digits_any u w (by omega)
    have hu : -(-(u : Int) + 1) + 1 = (u : Int) := by omega
    have e : itoa (-(u : Int)) = 45 :: decDigits u := itoa_neg u (by omega)
    have hl := dec_len u (by omega)
    rw [e]
    generalize decDigits u = D at *
    have hov : ¬ 9223372036854775807 < 1 + D.length := by omega
    have hap := app_front 45 D
    clear e
    go_enter Tryz.func36, Tryz.ntmps36
    go_wp2_with fail
    try simp only [hu]
    refine c.mono ?_
    rintro e w1 ⟨rfl, rfl⟩
    go_wp2_with fail
    go_ret
    exact ⟨rfl, rfl⟩
  · obtain ⟨u, rfl⟩ : ∃ u : Nat, n = (u : Int) := ⟨n.toNat, by omega⟩
    have c := digits_any u w (by omega)
    have e : itoa (u : Int) = decDigits u := itoa_nonneg u
    rw [e]
    generalize decDigits u = D at *
    clear e
    go_enter Tryz.func36, Tryz.ntmps36
    go_wp2_with fail
    refine c.mono ?_
    rintro e w1 ⟨rfl, rfl⟩
    go_wp2_with fail
    go_ret
    exact ⟨rfl, rfl⟩
end Go.Proofs.YtbbblmedoagncaaGreatDoor
