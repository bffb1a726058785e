/- Contracts of sum.eight, More, Of and of the document's own More, Of: for every register and every bytes that lie somewhere they answer the sum; nothing in memory turns. -/
import Derived.Test.YtpkbjiakjofcnaaBytes
import Derived.Test.YtpkbjiakjofcnaaSumMath
namespace Go.Proofs.Ytpkbjiakjofcnaa
open Go.RowKit


theorem and_one (y : BitVec 32) : bits .and .u32 (Z y) 1 = if y.getLsbD 0 then 1 else 0 := by
  have h := u32_and_nat y.toNat 1 y.isLt (by decide)
  have h2 : bits .and .u32 (Z y) 1 = ((y.toNat &&& 1 : Nat) : Int) := h
  rw [h2, Nat.and_one_is_mod]
  exact lsb_mod y
theorem st_yes {k : Nat} {x : BitVec 32} (h : (bits .and .u32 (Z (stN k x)) 1 == 1) = true) : bits .xor .u32 (Z (stN k x) / 2) 3988292384 = Z (stN (k + 1) x) := by
  rw [and_one] at h
  have hb : (stN k x).getLsbD 0 = true := by
    cases e : (stN k x).getLsbD 0
    · rw [e] at h; simp at h
    · rfl
  rw [Z_shr, Z_poly, Z_xor]
  show _ = Z (st (stN k x))
  unfold st; rw [if_pos hb]
theorem st_no {k : Nat} {x : BitVec 32} (h : (bits .and .u32 (Z (stN k x)) 1 == 1) = false) : Z (stN k x) / 2 = Z (stN (k + 1) x) := by
  rw [and_one] at h
  have hb : (stN k x).getLsbD 0 = false := by
    cases e : (stN k x).getLsbD 0
    · rfl
    · rw [e] at h; simp at h
  rw [Z_shr]
  show _ = Z (st (stN k x))
  unfold st; rw [hb]; rfl

set_option maxHeartbeats 400000 in
theorem eight_any (x : BitVec 32) (w : World) : Calls Try.prog 43 #[.int .u32 (Z x)] w fun e w' => e = .returned (.int .u32 (Z (stN 8 x))) ∧ w = w' := by
  go_enter Try.func43, Try.ntmps43
  go_wp2
  go_loop [0, 4] (fun r i => ∃ k : Nat, k ≤ 8 ∧ i = .int .i64 k ∧ r = .int .u32 (Z (stN k x))) (fun _ i => 8 - (intOf i).toNat)
  case atStart => exact ⟨0, Nat.zero_le _, rfl, rfl⟩
  case round =>
    obtain ⟨k, hk, rfl, rfl⟩ := hrel
    have hlo := Z_lo (stN k x)
    have hhi := Z_hi (stN k x)
    by_cases hlt : k < 8
    · go_wp2
      · have ht : (bits .and .u32 (Z (stN k x)) 1 == 1) = true := by assumption
        go_round
        case rel => exact ⟨k + 1, by omega, by go_num, by rw [st_yes ht]⟩
        case measure => simp [intOf]; omega
      · have ht : (bits .and .u32 (Z (stN k x)) 1 == 1) = false := by assumption
        go_round
        case rel => exact ⟨k + 1, by omega, by go_num, by rw [st_no ht]⟩
        case measure => simp [intOf]; omega
    · obtain rfl : k = 8 := by omega
      go_wp2
      go_ret
      exact ⟨rfl, rfl⟩

theorem fd_snoc' (r : BitVec 32) (l : List UInt8) (k : Nat) (h : k < l.length) : ab (fd r (l.take k)) (l.getD k 0) = fd r (l.take (k + 1)) := by
  rw [fd_snoc r l k h, List.getD_eq_getElem?_getD, List.getElem?_eq_getElem h]; rfl

theorem not_Z (s : BitVec 32) : bits .xor .u32 IntKind.u32.max (Z s) = Z (s ^^^ onesB) := by
  have h : IntKind.u32.max = Z onesB := by decide
  rw [h, Z_xor, BitVec.xor_comm]

set_option maxHeartbeats 400000 in
theorem more_any (s : BitVec 32) (A : Option Addr) (L : List UInt8) (cap : Nat) (w : World) (hl : L.length ≤ 9223372036854775807) (hB : Bs w A L) :
    Calls Try.prog 33 #[.int .u32 (Z s), .slice A L.length cap] w fun e w' => e = .returned (.int .u32 (Z (moreB s L))) ∧ w = w' := by
  have hlo := Z_lo s
  have hhi := Z_hi s
  go_enter Try.func33, Try.ntmps33
  go_wp2
  go_loop [5, 12] (fun r i => ∃ k : Nat, k ≤ L.length ∧ i = .int .i64 k ∧ r = .int .u32 (Z (fd (s ^^^ onesB) (L.take k)))) (fun _ i => L.length - (intOf i).toNat)
  case atStart => exact ⟨0, Nat.zero_le _, rfl, by rw [not_Z]; rfl⟩
  case round =>
    obtain ⟨k, hk, rfl, rfl⟩ := hrel
    have hlo := Z_lo (fd (s ^^^ onesB) (L.take k))
    have hhi := Z_hi (fd (s ^^^ onesB) (L.take k))
    by_cases hlt : k < L.length
    · obtain ⟨b, off, rfl, hc⟩ := hB (by omega)
      have hck := hc k hlt
      have hb := byte_hi (L.getD k 0)
      have hn := fd_snoc' (s ^^^ onesB) L k hlt
      unfold ab at hn
      have HN := Lib.hid hn
      clear hn hc
      generalize L.getD k 0 = c at *
      generalize fd (s ^^^ onesB) (L.take k) = r at *
      have hx : bits .xor .u32 (Z r) (c.toNat : Int) = Z (r ^^^ by8 c) := by rw [← by8_Z, Z_xor]
      go_wp2_with fail
      refine (eight_any _ _).mono ?_
      rintro e w' ⟨rfl, rfl⟩
      clear hx
      go_wp2
      go_round
      case rel => exact ⟨k + 1, by omega, by go_num, by rw [HN.out]⟩
      case measure => simp [intOf]; omega
    · obtain rfl : k = L.length := by omega
      rw [List.take_length] at *
      go_wp2
      go_ret
      exact ⟨ret_int (by rw [not_Z]; rfl), rfl⟩

theorem of_any (A : Option Addr) (L : List UInt8) (cap : Nat) (w : World) (hl : L.length ≤ 9223372036854775807) (hB : Bs w A L) :
    Calls Try.prog 34 #[.slice A L.length cap] w fun e w' => e = .returned (.int .u32 (Z (moreB 0#32 L))) ∧ w = w' := by
  have c := more_any 0#32 A L cap w hl hB
  have hz : Z 0#32 = 0 := rfl
  rw [hz] at c
  clear hz hB hl
  generalize Z (moreB 0#32 L) = R at *
  go_enter Try.func34, Try.ntmps34
  go_wp2_with fail
  refine c.mono ?_
  rintro e w' ⟨rfl, rfl⟩
  go_wp2
  go_ret
  exact ⟨rfl, rfl⟩

/-- The register when k bits of a byte went in, one by one. -/
def rf (r : BitVec 32) (c : UInt8) (k : Nat) : BitVec 32 := stN k (r ^^^ by8 c) ^^^ (by8 c >>> k)

theorem rf_zero (r : BitVec 32) (c : UInt8) : rf r c 0 = r := by
  unfold rf; show (r ^^^ by8 c) ^^^ (by8 c >>> 0) = r
  rw [BitVec.ushiftRight_zero, BitVec.xor_assoc, BitVec.xor_self, BitVec.xor_zero]
theorem rf_eight (r : BitVec 32) (c : UInt8) : rf r c 8 = stN 8 (r ^^^ by8 c) := by
  have h : by8 c >>> 8 = 0#32 := by
    apply BitVec.eq_of_toNat_eq
    have := c.toNat_lt
    unfold by8
    rw [BitVec.toNat_ushiftRight, BitVec.toNat_ofNat, Nat.shiftRight_eq_div_pow]
    simp
    omega
  unfold rf; rw [h, BitVec.xor_zero]
theorem byte_shr (c : UInt8) (m : Nat) : ((c.toNat : Int) / 2 ^ m).tmod 2 % 4294967296 = Z (by8 c >>> m) % 2 := by
  have h : (c.toNat : Int) / 2 ^ m = Z (by8 c >>> m) := by
    have h1 : Z (by8 c >>> m) = ((c.toNat / 2 ^ m : Nat) : Int) := by
      unfold Z; rw [BitVec.toNat_ushiftRight, Nat.shiftRight_eq_div_pow]
      have := by8_Z c
      unfold Z at this
      have h2 : (by8 c).toNat = c.toNat := by omega
      rw [h2]
    rw [h1]; simp
  rw [h, Int.tmod_eq_emod_of_nonneg (Z_lo _)]
  have := Z_lo (by8 c >>> m)
  omega
theorem bit_told (d e : BitVec 32) : (Z (d ^^^ e) % 2 != Z e % 2) = d.getLsbD 0 := by
  rw [lsb_mod, lsb_mod, BitVec.getLsbD_xor]
  cases d.getLsbD 0 <;> cases e.getLsbD 0 <;> rfl
theorem shr_more (x : BitVec 32) (m : Nat) : (x >>> m) >>> (1 : Nat) = x >>> (m + 1) := (BitVec.shiftRight_add x m 1).symm
theorem rf_yes {r : BitVec 32} {c : UInt8} {m : Nat} (h : (Z (rf r c m) % 2 != ((c.toNat : Int) / 2 ^ m).tmod 2 % 4294967296) = true) : bits .xor .u32 (Z (rf r c m) / (2 : Int)) 3988292384 = Z (rf r c (m + 1)) := by
  unfold rf at h ⊢
  rw [byte_shr, bit_told] at h
  rw [Z_shr, Z_poly, Z_xor, BitVec.ushiftRight_xor_distrib, shr_more]
  show _ = Z (st (stN m (r ^^^ by8 c)) ^^^ _)
  unfold st; rw [if_pos h, BitVec.xor_assoc, BitVec.xor_comm (by8 c >>> (m + 1)), BitVec.xor_assoc]
theorem rf_no {r : BitVec 32} {c : UInt8} {m : Nat} (h : (Z (rf r c m) % 2 != ((c.toNat : Int) / 2 ^ m).tmod 2 % 4294967296) = false) : Z (rf r c m) / (2 : Int) = Z (rf r c (m + 1)) := by
  unfold rf at h ⊢
  rw [byte_shr, bit_told] at h
  rw [Z_shr, BitVec.ushiftRight_xor_distrib, shr_more]
  show _ = Z (st (stN m (r ^^^ by8 c)) ^^^ _)
  unfold st; rw [if_neg (by rw [h]; decide)]
theorem ones_Z (s : BitVec 32) : bits .xor .u32 (Z s) 4294967295 = Z (s ^^^ onesB) := by rw [Z_ones, Z_xor]

set_option maxHeartbeats 400000 in
theorem refMore_any (s : BitVec 32) (A : Option Addr) (L : List UInt8) (cap : Nat) (w : World) (hl : L.length ≤ 9223372036854775807) (hB : Bs w A L) :
    Calls Try.prog 25 #[.int .u32 (Z s), .slice A L.length cap] w fun e w' => e = .returned (.int .u32 (Z (moreB s L))) ∧ w = w' := by
  have hlo := Z_lo s
  have hhi := Z_hi s
  go_enter Try.func25, Try.ntmps25
  go_wp2
  go_loop [5, 6] (fun r i => ∃ k : Nat, k ≤ L.length ∧ i = .int .i64 k ∧ r = .int .u32 (Z (fd (s ^^^ onesB) (L.take k)))) (fun _ i => L.length - (intOf i).toNat)
  case atStart => exact ⟨0, Nat.zero_le _, rfl, by rw [ones_Z]; rfl⟩
  case round =>
    obtain ⟨k, hk, rfl, rfl⟩ := hrel
    by_cases hlt : k < L.length
    · obtain ⟨b, off, rfl, hc⟩ := hB (by omega)
      have hck := hc k hlt
      have hb := byte_hi (L.getD k 0)
      have hn := fd_snoc' (s ^^^ onesB) L k hlt
      unfold ab at hn
      have HN := Lib.hid hn
      clear hn hc
      generalize L.getD k 0 = c at *
      generalize fd (s ^^^ onesB) (L.take k) = r at *
      go_wp2_with fail
      go_loop [5, 7] (fun q j => ∃ m : Nat, m ≤ 8 ∧ j = .int .i64 m ∧ q = .int .u32 (Z (rf r c m))) (fun _ j => 8 - (intOf j).toNat)
      case atStart => exact ⟨0, Nat.zero_le _, rfl, by rw [rf_zero]⟩
      case round =>
        obtain ⟨m, hm, rfl, rfl⟩ := hrel
        have hlo := Z_lo (rf r c m)
        have hhi := Z_hi (rf r c m)
        by_cases hm8 : m < 8
        · go_wp2_with fail
          · have ht : (Z (rf r c m) % 2 != ((c.toNat : Int) / 2 ^ m).tmod 2 % 4294967296) = true := by assumption
            go_round
            case rel => exact ⟨m + 1, by omega, by go_num, by rw [rf_yes ht]⟩
            case measure => simp [intOf]; omega
          · have ht : (Z (rf r c m) % 2 != ((c.toNat : Int) / 2 ^ m).tmod 2 % 4294967296) = false := by assumption
            go_round
            case rel => exact ⟨m + 1, by omega, by go_num, by rw [rf_no ht]⟩
            case measure => simp [intOf]; omega
        · obtain rfl : m = 8 := by omega
          go_wp2_with fail
          go_round
          case rel => exact ⟨k + 1, by omega, by go_num, by rw [rf_eight, HN.out]⟩
          case measure => simp [intOf]; omega
    · obtain rfl : k = L.length := by omega
      rw [List.take_length] at *
      go_wp2
      go_ret
      exact ⟨ret_int (by rw [ones_Z]; rfl), rfl⟩

theorem refOf_any (A : Option Addr) (L : List UInt8) (cap : Nat) (w : World) (hl : L.length ≤ 9223372036854775807) (hB : Bs w A L) :
    Calls Try.prog 26 #[.slice A L.length cap] w fun e w' => e = .returned (.int .u32 (Z (moreB 0#32 L))) ∧ w = w' := by
  have c := refMore_any 0#32 A L cap w hl hB
  have hz : Z 0#32 = 0 := rfl
  rw [hz] at c
  clear hz hB hl
  generalize Z (moreB 0#32 L) = R at *
  go_enter Try.func26, Try.ntmps26
  go_wp2_with fail
  refine c.mono ?_
  rintro e w' ⟨rfl, rfl⟩
  go_wp2
  go_ret
  exact ⟨rfl, rfl⟩
end Go.Proofs.Ytpkbjiakjofcnaa
