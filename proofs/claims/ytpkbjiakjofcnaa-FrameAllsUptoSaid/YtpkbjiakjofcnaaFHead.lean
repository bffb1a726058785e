/- Contract of frame.head: the length and the sum that stand ahead of a body. -/
import Derived.Test.YtpkbjiakjofcnaaFSmall
namespace Go.Proofs.Ytpkbjiakjofcnaa
open Go.RowKit

theorem put_nil (v : Int) (w : World) (h0 : -9223372036854775808 ≤ v) (h1 : v ≤ 9223372036854775807) : Calls Try.prog 32 #[.slice none 0 0, .int .i64 v] w (OwnBytes w (putI v)) := by
  have c := putint_any none [] 0 v w (by simp) (by simp) (Bs.nil _ _) h0 h1
  rw [List.nil_append] at c
  exact c
theorem bs_four (w : World) (S : BitVec 32) (t : TypeId) (z : Nat × Nat) : Bs (w.alloc (.cells #[.int .u8 (Z S % 256), .int .u8 (Z S / 256 % 256), .int .u8 (Z S / 65536 % 256), .int .u8 (Z S / 16777216)] t z)) (some ⟨w.heap.size, 0, none⟩) (four S) := by
  refine fun _ => ⟨_, 0, rfl, fun j hj => ?_⟩
  rw [Nat.zero_add, cell_of_row _ _ j _ t z (heap_alloc_new w _)]
  rw [four_len] at hj
  have : j = 0 ∨ j = 1 ∨ j = 2 ∨ j = 3 := by omega
  have e0 : ((UInt8.ofNat (S.toNat % 256)).toNat : Int) = Z S % 256 := by rw [u8_of (by omega)]; unfold Z; omega
  have e1 : ((UInt8.ofNat (S.toNat / 256 % 256)).toNat : Int) = Z S / 256 % 256 := by rw [u8_of (by omega)]; unfold Z; omega
  have e2 : ((UInt8.ofNat (S.toNat / 65536 % 256)).toNat : Int) = Z S / 65536 % 256 := by rw [u8_of (by omega)]; unfold Z; omega
  have e3 : ((UInt8.ofNat (S.toNat / 16777216 % 256)).toNat : Int) = Z S / 16777216 := by have := S.isLt; rw [u8_of (by omega)]; unfold Z; omega
  rcases this with rfl | rfl | rfl | rfl
  · rw [← e0]; rfl
  · rw [← e1]; rfl
  · rw [← e2]; rfl
  · rw [← e3]; rfl

set_option maxHeartbeats 400000 in
theorem head_any (A : Option Addr) (L : List UInt8) (cap : Nat) (w : World) (hl : L.length ≤ 140737488351232) (hB : Bs w A L) :
    Calls Try.prog 23 #[.slice A L.length cap] w (OwnBytes w (headF L)) := by
  have cp := put_nil (L.length : Int) w (by omega) (by omega)
  have hp1 := putI_pos (L.length : Int)
  have hp2 := putI_ten (v := (L.length : Int)) (by omega) (by omega)
  obtain ⟨P, hP⟩ : ∃ P, P = putI (L.length : Int) := ⟨_, rfl⟩
  obtain ⟨S, hS⟩ : ∃ S, S = moreB (moreB 0#32 P) L := ⟨_, rfl⟩
  have hH : headF L = P ++ four S := by rw [hS, hP]; rfl
  rw [← hP] at cp hp1 hp2
  have HH := Lib.hid hH
  have HS := Lib.hid hS
  have s0 := Z_lo S
  have s1 := Z_hi S
  clear hH hS hP
  go_enter Try.func23, Try.ntmps23
  go_wp2_with fail
  refine cp.mono ?_
  rintro e w1 ⟨A1, cap1, rfl, hB1, _, hown, hb1⟩
  have c1 := of_any A1 P cap1 w1 (by omega) hB1
  have c2 := more_any (moreB 0#32 P) A L cap w1 (by omega) (hB.below hb1)
  rw [← HS.out] at c2
  have HO := Lib.hid (Onto.of_own hown)
  have hs1 := hb1.size
  generalize Z (moreB 0#32 P) = R at *
  clear cp hB1 hown
  go_wp2_with fail
  refine c1.mono ?_
  rintro e w' ⟨rfl, rfl⟩
  clear c1
  go_wp2_with fail
  refine c2.mono ?_
  rintro e w' ⟨rfl, rfl⟩
  clear c2
  go_wp2_with (at_builtin; (refine wpList_append_onto rfl (.tmp 12) (.tmp 24) rfl w.heap.size _ P (four S) rfl (HO.out.alloc _) ⟨w1.heap.size, 0, none⟩ 4 rfl (bs_four _ _ _ _) (by rw [four_len]; omega) (by rw [four_len]; omega) (by simp; omega) ?_; intro b' w' ho hb))
  go_ret
  rw [HH.out]
  exact own_bytes ho ((hb1.alloc hb1.size _).trans hb)
end Go.Proofs.Ytpkbjiakjofcnaa
