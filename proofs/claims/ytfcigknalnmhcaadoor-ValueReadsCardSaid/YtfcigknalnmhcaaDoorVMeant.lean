/- The contract of value.meant, where a text looks like a number. -/
import Derived.Test.YtfcigknalnmhcaaDoorVNear
namespace Go.Proofs.YtfcigknalnmhcaaDoor
open Go.RowKit Go.Lib

theorem not_list {t : ByteArray} {l : List UInt8} (h : t.data.toList ≠ l) : (t.toList == l) = false := by rw [ByteArray.toList_eq]; exact beq_eq_false_iff_ne.2 h
set_option maxHeartbeats 2000000 in
set_option maxRecDepth 100000 in
theorem meant_num (t : ByteArray) (w : World) (hs : t.size ≤ 1099511627776) (hE : Errs w) (h1 : t.data.toList ≠ [45]) (h2 : t.data.toList ≠ [116, 114, 117, 101]) (h3 : t.data.toList ≠ [102, 97, 108, 115, 101])
    (h4 : hasPrefix t.data.toList [34] = false) (h5 : hasPrefix t.data.toList [35] = false) :
    Calls Tryd.prog 57 #[.string t] w fun e w' => (∃ m, e = .returned (V3 1 m ⟨#[]⟩) ∧ Near t.data.toList m) ∧ Below w.heap.size w w' := by
  have e1 := not_list h1
  have e2 := not_list h2
  have e3 := not_list h3
  have hb0 := below_alloc w (.cells #[.int .i64 0, .int .i64 0, .string ⟨#[]⟩] 23)
  have r0 := three_new w (.int .i64 0) (.int .i64 0) (.string ⟨#[]⟩) 23
  have c4 := fun w => hasPrefix_any t ⟨#[34]⟩ w
  have c5 := fun w => hasPrefix_any t ⟨#[35]⟩ w
  have x4 : hasPrefix t.data.toList (⟨#[34]⟩ : ByteArray).data.toList = false := h4
  have x5 : hasPrefix t.data.toList (⟨#[35]⟩ : ByteArray).data.toList = false := h5
  simp only [x4] at c4
  simp only [x5] at c5
  have hE0 := hE.later hb0
  have cN := fun w h => near_any t w hs h
  clear h1 h2 h3 h4 h5 x4 x5 hE
  go_enter Tryd.func57, Tryd.ntmps57
  go_wp2_with fail
  refine (c4 _).mono ?_
  rintro e w1 ⟨rfl, rfl⟩
  go_wp2_with fail
  refine (c5 _).mono ?_
  rintro e w2 ⟨rfl, rfl⟩
  go_wp2_with fail
  refine (cN _ hE0).mono ?_
  rintro e w3 ⟨⟨m, rfl, hN⟩, hb3⟩
  obtain ⟨-, z0, z1, z2, f0, f1, f2⟩ := r0.later hb3
  have hbw := below_to hb0 hb3
  clear c4 c5 cN hE0 r0 hb0 hb3 e1 e2 e3
  go_wp2
  exact bodyPost_ret (v := V3 1 m ⟨#[]⟩) (by simp [results, Tryd.results57, go_sem, z0, z1, z2]) rfl ⟨⟨m, rfl, hN⟩, ((hbw.setCell (p := ⟨w.heap.size, 0, none⟩) (Nat.le_refl _) _).setCell (p := ⟨w.heap.size, 1, none⟩) (Nat.le_refl _) _).setCell (p := ⟨w.heap.size, 2, none⟩) (Nat.le_refl _) _⟩
end Go.Proofs.YtfcigknalnmhcaaDoor
