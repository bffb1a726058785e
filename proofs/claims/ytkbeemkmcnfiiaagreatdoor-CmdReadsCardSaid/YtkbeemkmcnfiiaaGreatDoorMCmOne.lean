/- The document's example: the bytes of CmdOpen, read, put, checked. -/
import Derived.Test.YtkbeemkmcnfiiaaGreatDoorMCmG1
import Derived.Test.YtkbeemkmcnfiiaaGreatDoorMCmPut
import Derived.Test.YtkbeemkmcnfiiaaGreatDoorWA
namespace Go.Proofs.YtkbeemkmcnfiiaaGreatDoor
open Go.RowKit

/-- A text made of bytes that lie somewhere, in every later world. -/
theorem str_fact {w5 : World} {A : Option Addr} {L : List UInt8} (cap : Nat) (hB : Bs w5 A L) : ∃ t : ByteArray, Hid (t = ⟨L.toArray⟩) ∧ ∀ w', Below w5.heap.size w5 w' → (convert 33 9 (.slice A L.length cap)).run Tryz.prog w' = .ok (.string t) w' :=
  ⟨_, Lib.hid rfl, fun w' h => run_str_of (P := Tryz.prog) (w := w') 33 9 5 cap Tryz.underlying33 Tryz.underlying5 Tryz.underlying9 (hB.below h)⟩
theorem run_text_of {w : World} {A : Option Addr} {L : List UInt8} {t : ByteArray} (cap : Nat) (hB : Bs w A L) (h : (⟨L.toArray⟩ : ByteArray) = t) : (convert 33 9 (.slice A L.length cap)).run Tryz.prog w = .ok (.string t) w := by
  rw [← h]
  exact run_str_of (P := Tryz.prog) 33 9 5 cap Tryz.underlying33 Tryz.underlying5 Tryz.underlying9 hB
theorem put_1 : putI 1 = [2] := by
  unfold putI
  rw [show uz 1 = 2 by decide, enc_low (by decide)]
  rfl
theorem open_in : Cm.In ⟨1, 0, 0, ⟨#[]⟩, 0, 0, 0, ⟨#[]⟩⟩ := by constructor <;> decide
theorem open_ok : cmdB ⟨1, 0, 0, ⟨#[]⟩, 0, 0, 0, ⟨#[]⟩⟩ = true := by rw [cmdB_1 rfl]; rfl
theorem open_put : putC ⟨1, 0, 0, ⟨#[]⟩, 0, 0, 0, ⟨#[]⟩⟩ = [2] := by rw [putC_1 rfl, put_1]
theorem open_get : getC [2] = (⟨1, 0, 0, ⟨#[]⟩, 0, 0, 0, ⟨#[]⟩⟩, true) := by
  have := getC_put open_in open_ok
  rwa [open_put] at this
theorem open_kind : (stI ([2], false)).1 = 1 := by decide
set_option maxHeartbeats 1000000 in
set_option maxRecDepth 100000 in
theorem cmawake_any (w : World) (hT : Tabs w) : Calls Tryz.prog 9 #[] w fun e w' => e = .returned (.bool true) ∧ Below w.heap.size w w' := by
  have b0 := below_alloc w (.cells #[.int .u8 2] 5)
  have hB0 : Bs (w.alloc (.cells #[.int .u8 2] 5)) (some ⟨w.heap.size, 0, none⟩) [2] := bs_new w 2 5 (0, 0)
  obtain ⟨w0, hw0⟩ : ∃ w0, w.alloc (.cells #[.int .u8 2] 5) = w0 := ⟨_, rfl⟩
  rw [hw0] at b0 hB0
  have cG := pget_1 (some ⟨w.heap.size, 0, none⟩) [2] 1 w0 open_kind (by decide) hB0 (fun h => by cases h) (hT.later b0)
  rw [open_get] at cG
  unfold GotC at cG
  dsimp only at cG
  go_enter Tryz.func9, Tryz.ntmps9
  go_wp2_with fail
  refine cG.mono ?_
  rintro x w1 ⟨rfl, hb1⟩
  have hbw1 := below_to b0 hb1
  have b2 := below_alloc w1 (.cells (cs8 1 0 0 ⟨#[]⟩ 0 0 0 ⟨#[]⟩) 25)
  have C2 := Blk.new w1 (cs8 1 0 0 ⟨#[]⟩ 0 0 0 ⟨#[]⟩) 25
  have hbw2 := below_to hbw1 b2
  clear cG hB0 hw0 hb1 b0
  go_wp2_with fail
  generalize hw2 : w1.alloc (.cells (cs8 1 0 0 ⟨#[]⟩ 0 0 0 ⟨#[]⟩) 25) = w2 at *
  have cP := pput_1 0 0 ⟨#[]⟩ 0 0 0 ⟨#[]⟩ open_in w2 (by decide) (by decide)
  rw [open_put] at cP
  refine cP.mono ?_
  rintro x w3 ⟨A3, cap3, rfl, hB3, hc3, ho3, hb3⟩
  have C3 := C2.later hb3
  have hbw3 := below_to hbw2 hb3
  have ht : (convert 33 9 (.slice A3 1 cap3)).run Tryz.prog w3 = .ok (.string ⟨#[2]⟩) w3 := run_text_of (L := [2]) (t := ⟨#[2]⟩) cap3 hB3 rfl
  have cC := pcheck_1 0 0 ⟨#[]⟩ 0 0 0 ⟨#[]⟩ open_in w3
  rw [open_ok] at cC
  clear hw2 C2 hbw1 b2 hb3 hbw2 cP hB3 hc3 ho3
  obtain ⟨hl, c0, c1, c2, c3, c4, c5, c6, c7⟩ := C3.c8
  go_wp2_with fail
  refine cC.mono ?_
  rintro x w4 ⟨rfl, hb4⟩
  have HB := Lib.hid (below_to hbw3 hb4)
  clear cC hb4 hbw3 C3 hl c0 c1 c2 c3 c4 c5 c6 c7
  go_wp2
  go_ret
  exact ⟨rfl, HB.out⟩
end Go.Proofs.YtkbeemkmcnfiiaaGreatDoor
