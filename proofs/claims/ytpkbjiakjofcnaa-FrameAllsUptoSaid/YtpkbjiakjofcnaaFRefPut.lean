/- Contract of the document's own Put: a frame's bytes, in memory of the call's own. -/
import Derived.Test.YtpkbjiakjofcnaaFAwake
namespace Go.Proofs.Ytpkbjiakjofcnaa
open Go.RowKit

set_option maxHeartbeats 1000000 in
theorem refput_any (A : Option Addr) (L : List UInt8) (cap : Nat) (w : World) (hL0 : 1 ≤ L.length) (hl : L.length ≤ 1048576) (hB : Bs w A L) :
    Calls Try.prog 13 #[.slice A L.length cap] w (OwnBytes w (putF L)) := by
  have cp := refint_any (L.length : Int) w (by omega) (by omega)
  have hp1 := putI_pos (L.length : Int)
  have hp2 := putI_ten (v := (L.length : Int)) (by omega) (by omega)
  obtain ⟨P, hP⟩ : ∃ P, P = putI (L.length : Int) := ⟨_, rfl⟩
  obtain ⟨S, hS⟩ : ∃ S, S = moreB (moreB 0#32 P) L := ⟨_, rfl⟩
  obtain ⟨H, hH⟩ : ∃ H, P ++ four S = H := ⟨_, rfl⟩
  have hX : putF L = H ++ L := by rw [← hH, hS, hP]; rfl
  have hHl : H.length = P.length + 4 := by rw [← hH, List.length_append, four_len]
  rw [← hP] at cp hp1 hp2
  have HH := Lib.hid hH
  have HX := Lib.hid hX
  have HS := Lib.hid hS
  have HL := Lib.hid hHl
  have s0 := Z_lo S
  have s1 := Z_hi S
  have hl1 : 1 ≤ H.length := by omega
  have hl2 : H.length + L.length ≤ 140737488355328 := by omega
  clear hH hS hP hX hHl
  obtain ⟨ob, off, rfl⟩ := bs_some hB (by omega)
  have HBU := Lib.hid (BsU.of hB (Nat.le_refl _))
  go_enter Try.func13, Try.ntmps13
  go_wp2_with fail
  refine cp.mono ?_
  rintro e w1 ⟨A1, cap1, rfl, hB1, _, hown, hb1⟩
  have c1 := refOf_any A1 P cap1 w1 (by omega) hB1
  have c2 := refMore_any (moreB 0#32 P) (some ⟨ob, off, none⟩) L cap w1 (by omega) (hB.below hb1)
  rw [← HS.out] at c2
  have HO := Lib.hid (Onto.of_own hown)
  have hs1 := hb1.size
  generalize Z (moreB 0#32 P) = R at *
  clear cp hB1 hown hB
  go_wp2_with fail
  refine c1.mono ?_
  rintro e w' ⟨rfl, rfl⟩
  clear c1
  go_wp2_with fail
  refine c2.mono ?_
  rintro e w' ⟨rfl, rfl⟩
  clear c2
  go_wp2_with (first
    | (at_builtin; refine wpList_append_onto rfl (.tmp 13) (.tmp 25) rfl w.heap.size _ P (four S) rfl (HO.out.alloc _) ⟨w1.heap.size, 0, none⟩ 4 rfl (bs_four _ _ _ _) (by rw [four_len]; omega) (by rw [four_len]; omega) (by simp; omega) ?_; intro b2 w2 ho2 hb2; rw [HH.out] at ho2; have HB2 := Lib.hid ((hb1.alloc hb1.size _).trans hb2); have HO2 := Lib.hid (Onto.of_own ho2); have hs2 := HB2.out.size; clear ho2 hb2)
    | (at_builtin; refine wpList_append_onto rfl (.tmp 27) (.tmp 28) rfl w.heap.size _ H L rfl HO2.out ⟨ob, off, none⟩ cap rfl (HBU.out.below HB2.out).bs hL0 hl2 hs2 ?_; intro b3 w3 ho3 hb3))
  go_ret
  rw [← HX.out] at ho3
  exact own_bytes ho3 (HB2.out.trans hb3)
end Go.Proofs.Ytpkbjiakjofcnaa
