/- Contracts of sum.More and sum.Of: for every register and every bytes that lie somewhere they answer the sum; nothing in memory turns. -/
import Derived.Test.YtmmclglbjjfcgaaSumEight
namespace Go.Proofs.Ytmmclglbjjfcgaa
open Go.RowKit

/-- The bytes L lie where the slice begins. -/
def Bs (w : World) (A : Option Addr) (L : List UInt8) : Prop := 0 < L.length → ∃ b off, A = some ⟨b, off, none⟩ ∧ ∀ j, j < L.length → w.cell? ⟨b, off + j, none⟩ = some (.int .u8 ((L.getD j 0).toNat : Int))
theorem Bs.nil (w : World) (A : Option Addr) : Bs w A [] := fun h => absurd h (by decide)
theorem Bs.lt {w : World} {b off : Nat} {L : List UInt8} (h0 : 0 < L.length) (h : ∀ j, j < L.length → w.cell? ⟨b, off + j, none⟩ = some (.int .u8 ((L.getD j 0).toNat : Int))) : b < w.heap.size := by
  have := h 0 h0
  rcases Nat.lt_or_ge b w.heap.size with hlt | hge
  · exact hlt
  · simp [World.cell?, Array.getElem?_eq_none hge] at this
theorem Bs.below {w w' : World} {A : Option Addr} {L : List UInt8} (h : Bs w A L) (hb : Below w.heap.size w w') : Bs w' A L := fun h0 => by
  obtain ⟨b, off, e, hc⟩ := h h0
  have hl := Bs.lt h0 hc
  exact ⟨b, off, e, fun j hj => (hb.cell (p := ⟨b, off + j, none⟩) hl).trans (hc j hj)⟩
theorem byte_hi (c : UInt8) : (c.toNat : Int) ≤ 255 := by have := c.toNat_lt; omega
theorem fd_snoc' (r : BitVec 32) (l : List UInt8) (k : Nat) (h : k < l.length) : ab (fd r (l.take k)) (l.getD k 0) = fd r (l.take (k + 1)) := by
  rw [fd_snoc r l k h, List.getD_eq_getElem?_getD, List.getElem?_eq_getElem h]; rfl

theorem not_Z (s : BitVec 32) : bits .xor .u32 IntKind.u32.max (Z s) = Z (s ^^^ onesB) := by
  have h : IntKind.u32.max = Z onesB := by decide
  rw [h, Z_xor, BitVec.xor_comm]

set_option maxHeartbeats 400000 in
theorem more_any (s : BitVec 32) (A : Option Addr) (L : List UInt8) (cap : Nat) (w : World) (hl : L.length ≤ 9223372036854775807) (hB : Bs w A L) :
    Calls Try.prog 11 #[.int .u32 (Z s), .slice A L.length cap] w fun e w' => e = .returned (.int .u32 (Z (moreB s L))) ∧ w = w' := by
  have hlo := Z_lo s
  have hhi := Z_hi s
  go_enter Try.func11, Try.ntmps11
  go_wp2
  go_loop [5, 12] (fun r i => ∃ k : Nat, k ≤ L.length ∧ i = .int .i64 k ∧ r = .int .u32 (Z (fd (s ^^^ onesB) (L.take k)))) (fun _ i => L.length - (intOf i).toNat)
  case atStart => exact ⟨0, Nat.zero_le _, rfl, by rw [not_Z]; rfl⟩
  case round =>
    obtain ⟨k, hk, rfl, rfl⟩ := hrel
    have hlo := Z_lo (fd (s ^^^ onesB) (L.take k))
    have hhi := Z_hi (fd (s ^^^ onesB) (L.take k))
    by_cases hlt : k < L.length
    · obtain ⟨b, off, rfl, hc⟩ := hB (by omega)
      have hck := hc k hlt
      have hb := byte_hi (L.getD k 0)
      have hn := fd_snoc' (s ^^^ onesB) L k hlt
      unfold ab at hn
      have HN := Lib.hid hn
      clear hn hc
      generalize L.getD k 0 = c at *
      generalize fd (s ^^^ onesB) (L.take k) = r at *
      have hx : bits .xor .u32 (Z r) (c.toNat : Int) = Z (r ^^^ by8 c) := by rw [← by8_Z, Z_xor]
      go_wp2_with fail
      refine (eight_any _ _).mono ?_
      rintro e w' ⟨rfl, rfl⟩
      clear hx
      go_wp2
      go_round
      case rel => exact ⟨k + 1, by omega, by go_num, by rw [HN.out]⟩
      case measure => simp [intOf]; omega
    · obtain rfl : k = L.length := by omega
      rw [List.take_length] at *
      go_wp2
      go_ret
      exact ⟨ret_int (by rw [not_Z]; rfl), rfl⟩

theorem of_any (A : Option Addr) (L : List UInt8) (cap : Nat) (w : World) (hl : L.length ≤ 9223372036854775807) (hB : Bs w A L) :
    Calls Try.prog 9 #[.slice A L.length cap] w fun e w' => e = .returned (.int .u32 (Z (moreB 0#32 L))) ∧ w = w' := by
  have c := more_any 0#32 A L cap w hl hB
  have hz : Z 0#32 = 0 := rfl
  rw [hz] at c
  clear hz hB hl
  generalize Z (moreB 0#32 L) = R at *
  go_enter Try.func9, Try.ntmps9
  go_wp2_with fail
  refine c.mono ?_
  rintro e w' ⟨rfl, rfl⟩
  go_wp2
  go_ret
  exact ⟨rfl, rfl⟩
end Go.Proofs.Ytmmclglbjjfcgaa
