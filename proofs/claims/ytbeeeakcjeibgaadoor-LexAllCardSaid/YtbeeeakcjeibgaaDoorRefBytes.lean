/- The contract of the document's own Bytes: of a rune that may stand in a text, its UTF-8. -/
import Derived.Test.YtbeeeakcjeibgaaDoorVText
import Derived.Test.YtbeeeakcjeibgaaDoorFold
import Derived.Test.YtbeeeakcjeibgaaDoorMem
namespace Go.Proofs.YtbeeeakcjeibgaaDoor
open Go.RowKit

/-- A string made of the bytes of a rune, that lie in a new row. -/
theorem run_string_rune (w : World) (r : Int) (n : Nat) (hn : (Lib.encodeRune r).length = n) (cs : Array Value) (hcs : cs.toList = Lib.runeCells r) :
    (convert 52 9 (.slice (some ⟨w.heap.size, 0, none⟩) n n)).run Tryd.prog (w.alloc (.cells cs 5)) = .ok (.string ⟨(Lib.encodeRune r).toArray⟩) (w.alloc (.cells cs 5)) := by
  refine run_string_of (P := Tryd.prog) _ _ _ 5 w.heap.size n (Lib.encodeRune r) n hn Tryd.underlying52 Tryd.underlying5 Tryd.underlying9 ?_
  intro j v hv
  rw [Lib.byteCells_encodeRune, ← hcs] at hv
  rw [World.cell?, alloc_at]
  simpa using hv

set_option maxHeartbeats 1000000 in
set_option maxRecDepth 100000 in
theorem refBytes_any (r : Int) (w : World) (h : Scalar r) :
    Calls Tryd.prog 49 #[.int .i32 r] w fun e w' => e = .returned (.string ⟨(Lib.encodeRune r).toArray⟩) ∧ Below w.heap.size w w' := by
  have h0 : 0 ≤ r ∧ r ≤ 1114111 := by unfold Scalar at h; omega
  obtain ⟨hr0, hr1⟩ := h0
  by_cases c1 : r ≤ 127
  · have hz := Lib.encodeRuneZ_one hr0 c1
    have hcv := run_string_rune w r 1 (by unfold Lib.encodeRune; rw [hz]; rfl) #[.int .u8 r] (by unfold Lib.runeCells; rw [hz]; rfl)
    generalize (⟨(Lib.encodeRune r).toArray⟩ : ByteArray) = T at hcv ⊢
    have hlt : r < 128 := by omega
    clear hz h
    go_enter Tryd.func49, Tryd.ntmps49
    go_wp2
    go_ret
    exact ⟨rfl, (Below.refl _ _).alloc (Nat.le_refl _) _⟩
  by_cases c2 : r ≤ 2047
  · have hz := Lib.encodeRuneZ_two (r := r) (by omega) c2
    have hcv := run_string_rune w r 2 (by unfold Lib.encodeRune; rw [hz]; rfl) #[.int .u8 (192 + r / 64), .int .u8 (128 + r % 64)] (by unfold Lib.runeCells; rw [hz]; rfl)
    generalize (⟨(Lib.encodeRune r).toArray⟩ : ByteArray) = T at hcv ⊢
    have hlt : r < 2048 := by omega
    have hge : 128 ≤ r := by omega
    clear hz h
    go_enter Tryd.func49, Tryd.ntmps49
    go_wp2
    go_ret
    exact ⟨rfl, (Below.refl _ _).alloc (Nat.le_refl _) _⟩
  by_cases c3 : r ≤ 65535
  · have hz := Lib.encodeRuneZ_three (r := r) (by unfold Scalar at h; omega)
    have hcv := run_string_rune w r 3 (by unfold Lib.encodeRune; rw [hz]; rfl) #[.int .u8 (224 + r / 4096), .int .u8 (128 + r / 64 % 64), .int .u8 (128 + r % 64)] (by unfold Lib.runeCells; rw [hz]; rfl)
    generalize (⟨(Lib.encodeRune r).toArray⟩ : ByteArray) = T at hcv ⊢
    have hlt : r < 65536 := by omega
    have hge : 2048 ≤ r := by omega
    clear hz h
    go_enter Tryd.func49, Tryd.ntmps49
    go_wp2
    go_ret
    exact ⟨rfl, (Below.refl _ _).alloc (Nat.le_refl _) _⟩
  · have hz := Lib.encodeRuneZ_four (r := r) (by omega) hr1
    have hcv := run_string_rune w r 4 (by unfold Lib.encodeRune; rw [hz]; rfl) #[.int .u8 (240 + r / 262144), .int .u8 (128 + r / 4096 % 64), .int .u8 (128 + r / 64 % 64), .int .u8 (128 + r % 64)] (by unfold Lib.runeCells; rw [hz]; rfl)
    generalize (⟨(Lib.encodeRune r).toArray⟩ : ByteArray) = T at hcv ⊢
    have hge : 65536 ≤ r := by omega
    clear hz h
    go_enter Tryd.func49, Tryd.ntmps49
    go_wp2
    go_ret
    exact ⟨rfl, (Below.refl _ _).alloc (Nat.le_refl _) _⟩
end Go.Proofs.YtbeeeakcjeibgaaDoor
