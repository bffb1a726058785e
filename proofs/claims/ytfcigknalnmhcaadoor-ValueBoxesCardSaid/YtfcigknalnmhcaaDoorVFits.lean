/- The contracts of value.Fits and of the document's own. -/
import Derived.Test.YtfcigknalnmhcaaDoorVCheck
import Derived.Test.YtfcigknalnmhcaaDoorVRefCheck
namespace Go.Proofs.YtfcigknalnmhcaaDoor
open Go.RowKit

def fitsB (K n : Int) (s : List UInt8) (typ : Int) : Bool := checkB K n s && (K == 0 || K == typ)

set_option maxHeartbeats 2000000 in
set_option maxRecDepth 100000 in
theorem fits_any (K n : Int) (s : ByteArray) (typ : Int) (w : World) (hs : s.size < 9223372036854775807) (hT : Tabs w) :
    Calls Tryd.prog 15 #[V3 K n s, .int .i64 typ] w fun e w' => e = .returned (.bool (fitsB K n s.data.toList typ)) ∧ Below w.heap.size w w' := by
  have hb0 : Below w.heap.size w (w.alloc (.cells #[.int .i64 K, .int .i64 n, .string s] 23)) := (Below.refl _ _).alloc (Nat.le_refl _) _
  have hT1 : Tabs (w.alloc (.cells #[.int .i64 K, .int .i64 n, .string s] 23)) := hT.later hb0
  have cC := check_any K n s _ hs hT1
  unfold fitsB
  obtain ⟨Z, hZ⟩ : ∃ Z, checkB K n s.data.toList = Z := ⟨_, rfl⟩
  rw [hZ] at cC ⊢
  clear hZ
  cases Z
  · go_enter Tryd.func15, Tryd.ntmps15
    go_wp2_with fail
    refine cC.mono ?_
    rintro e w1 ⟨rfl, hb1⟩
    go_wp2
    go_ret
    exact ⟨rfl, hb0.trans (hb1.mono (by simp))⟩
  · go_enter Tryd.func15, Tryd.ntmps15
    go_wp2_with fail
    refine cC.mono ?_
    rintro e w1 ⟨rfl, hb1⟩
    have hb2 := hb0.trans (hb1.mono (by simp))
    have hc : w1.cell? ⟨w.heap.size, 0, none⟩ = some (.int .i64 K) := by
      rw [hb1.cell (p := ⟨w.heap.size, 0, none⟩) (by simp), cells_of_alloc]; rfl
    clear hb1 hb0 hT1 cC
    go_wp2
    all_goals
      go_ret
      refine ⟨ret_bool ?_, hb2⟩
      simp_all

set_option maxHeartbeats 2000000 in
set_option maxRecDepth 100000 in
theorem refFits_any (K n : Int) (s : ByteArray) (typ : Int) (w : World) :
    Calls Tryd.prog 16 #[V3 K n s, .int .i64 typ] w fun e w' => e = .returned (.bool (fitsB K n s.data.toList typ)) ∧ Below w.heap.size w w' := by
  have hb0 : Below w.heap.size w (w.alloc (.cells #[.int .i64 K, .int .i64 n, .string s] 23)) := (Below.refl _ _).alloc (Nat.le_refl _) _
  have cC := refCheck_any K n s (w.alloc (.cells #[.int .i64 K, .int .i64 n, .string s] 23))
  unfold fitsB
  obtain ⟨Z, hZ⟩ : ∃ Z, checkB K n s.data.toList = Z := ⟨_, rfl⟩
  rw [hZ] at cC ⊢
  clear hZ
  cases Z
  · go_enter Tryd.func16, Tryd.ntmps16
    go_wp2_with fail
    refine cC.mono ?_
    rintro e w1 ⟨rfl, hb1⟩
    go_wp2
    go_ret
    exact ⟨rfl, hb0.trans (hb1.mono (by simp))⟩
  · go_enter Tryd.func16, Tryd.ntmps16
    go_wp2_with fail
    refine cC.mono ?_
    rintro e w1 ⟨rfl, hb1⟩
    have hb2 := hb0.trans (hb1.mono (by simp))
    have hc : w1.cell? ⟨w.heap.size, 0, none⟩ = some (.int .i64 K) := by
      rw [hb1.cell (p := ⟨w.heap.size, 0, none⟩) (by simp), cells_of_alloc]; rfl
    clear hb1 hb0 cC
    go_wp2
    all_goals
      go_ret
      refine ⟨ret_bool ?_, hb2⟩
      simp_all
end Go.Proofs.YtfcigknalnmhcaaDoor
