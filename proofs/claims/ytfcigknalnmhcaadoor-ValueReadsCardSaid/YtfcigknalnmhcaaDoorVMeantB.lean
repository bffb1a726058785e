/- The contract of value.meant, where a text looks like nothing, a truth, a bad value. -/
import Derived.Test.YtfcigknalnmhcaaDoorVMeant
import Derived.Test.YtfcigknalnmhcaaDoorVBox
namespace Go.Proofs.YtfcigknalnmhcaaDoor
open Go.RowKit Go.Lib

theorem is_list {t : ByteArray} {l : List UInt8} (h : t.data.toList = l) : (t.toList == l) = true := by rw [ByteArray.toList_eq]; exact beq_iff_eq.2 h
set_option maxRecDepth 100000 in
theorem meant_dash (t : ByteArray) (w : World) (h : t.data.toList = [45]) :
    Calls Tryd.prog 57 #[.string t] w fun e w' => e = .returned (V3 0 0 ⟨#[]⟩) ∧ Below w.heap.size w w' := by
  have e1 := is_list h
  have hb0 := below_alloc w (.cells #[.int .i64 0, .int .i64 0, .string ⟨#[]⟩] 23)
  go_enter Tryd.func57, Tryd.ntmps57
  go_wp2
  exact bodyPost_ret (v := V3 0 0 ⟨#[]⟩) (by simp [results, Tryd.results57, go_sem]) rfl ⟨rfl, hb0⟩
set_option maxHeartbeats 2000000 in
set_option maxRecDepth 100000 in
theorem meant_hash (t : ByteArray) (w : World) (hs : t.size ≤ 1099511627776) (hE : Errs w) (r : List UInt8) (h : t.data.toList = 35 :: r) :
    Calls Tryd.prog 57 #[.string t] w fun e w' => (∃ m, e = .returned (V3 4 m ⟨#[]⟩) ∧ Near r m) ∧ Below w.heap.size w w' := by
  have e1 := not_list (t := t) (l := [45]) (by rw [h]; intro e; injection e with e; exact absurd e (by decide))
  have e2 := not_list (t := t) (l := [116, 114, 117, 101]) (by rw [h]; intro e; injection e with e; exact absurd e (by decide))
  have e3 := not_list (t := t) (l := [102, 97, 108, 115, 101]) (by rw [h]; intro e; injection e with e; exact absurd e (by decide))
  have hb0 := below_alloc w (.cells #[.int .i64 0, .int .i64 0, .string ⟨#[]⟩] 23)
  have r0 := three_new w (.int .i64 0) (.int .i64 0) (.string ⟨#[]⟩) 23
  have c4 := fun w => hasPrefix_any t ⟨#[34]⟩ w
  have c5 := fun w => hasPrefix_any t ⟨#[35]⟩ w
  have x4 : hasPrefix t.data.toList (⟨#[34]⟩ : ByteArray).data.toList = false := by rw [h]; rfl
  have x5 : hasPrefix t.data.toList (⟨#[35]⟩ : ByteArray).data.toList = true := by rw [h]; rfl
  simp only [x4] at c4
  simp only [x5] at c5
  have hE0 := hE.later hb0
  have hts : t.size = r.length + 1 := by rw [← size_list, h, List.length_cons]
  have htl : (t.extract 1 t.size).data.toList = r := by rw [tailList, h]; rfl
  have hxz : (t.extract 1 t.size).size ≤ 1099511627776 := by rw [← size_list, htl]; omega
  have cN := fun w h => near_any (t.extract 1 t.size) w hxz h
  rw [htl] at cN
  have h1 : (1 : Int) ≤ (t.size : Int) := by omega
  have h1n : 1 ≤ t.size := by omega
  have HTS := Lib.hid hts
  clear h x4 x5 hE htl hts hxz
  go_enter Tryd.func57, Tryd.ntmps57
  go_wp2_with fail
  refine (c4 _).mono ?_
  rintro e w1 ⟨rfl, rfl⟩
  go_wp2_with fail
  refine (c5 _).mono ?_
  rintro e w2 ⟨rfl, rfl⟩
  go_wp2_with fail
  refine (cN _ hE0).mono ?_
  rintro e w3 ⟨⟨m, rfl, hN⟩, hb3⟩
  obtain ⟨-, z0, z1, z2, f0, f1, f2⟩ := r0.later hb3
  have hbw := below_to hb0 hb3
  clear c4 c5 cN hE0 r0 hb0 hb3 e1 e2 e3
  go_wp2
  exact bodyPost_ret (v := V3 4 m ⟨#[]⟩) (by simp [results, Tryd.results57, go_sem, z0, z1, z2]) rfl ⟨⟨m, rfl, hN⟩, ((hbw.setCell (p := ⟨w.heap.size, 0, none⟩) (Nat.le_refl _) _).setCell (p := ⟨w.heap.size, 1, none⟩) (Nat.le_refl _) _).setCell (p := ⟨w.heap.size, 2, none⟩) (Nat.le_refl _) _⟩
set_option maxHeartbeats 2000000 in
set_option maxRecDepth 100000 in
theorem meant_truth (t : ByteArray) (w : World) (b : Bool) (h : t.data.toList = if b = true then [116, 114, 117, 101] else [102, 97, 108, 115, 101]) :
    Calls Tryd.prog 57 #[.string t] w fun e w' => e = .returned (V3 2 (b01 b) ⟨#[]⟩) ∧ Below w.heap.size w w' := by
  have e1 := not_list (t := t) (l := [45]) (by rw [h]; cases b <;> decide)
  have e2 : (t.toList == [116, 114, 117, 101]) = b := by
    cases b
    · exact not_list (by rw [h]; decide)
    · exact is_list h
  have e3 : (t.toList == [102, 97, 108, 115, 101]) = !b := by
    cases b
    · exact is_list h
    · exact not_list (by rw [h]; decide)
  have hb0 := below_alloc w (.cells #[.int .i64 0, .int .i64 0, .string ⟨#[]⟩] 23)
  have r0 := three_new w (.int .i64 0) (.int .i64 0) (.string ⟨#[]⟩) 23
  have cT := fun w => truth_any b w
  clear h
  cases b
  all_goals
    simp only [Bool.not_true, Bool.not_false] at e3
    simp only [b01, Bool.false_eq_true, ↓reduceIte] at cT
    go_enter Tryd.func57, Tryd.ntmps57
    go_wp2_with fail
    refine (cT _).mono ?_
    rintro e w3 ⟨rfl, hb3⟩
    obtain ⟨-, z0, z1, z2, f0, f1, f2⟩ := r0.later hb3
    have hbw := below_to hb0 hb3
    clear cT r0 hb0 hb3 e1 e2 e3
    go_wp2
    first
    | exact bodyPost_ret (v := V3 2 0 ⟨#[]⟩) (by simp [results, Tryd.results57, go_sem, z0, z1, z2]) rfl ⟨rfl, ((hbw.setCell (p := ⟨w.heap.size, 0, none⟩) (Nat.le_refl _) _).setCell (p := ⟨w.heap.size, 1, none⟩) (Nat.le_refl _) _).setCell (p := ⟨w.heap.size, 2, none⟩) (Nat.le_refl _) _⟩
    | exact bodyPost_ret (v := V3 2 1 ⟨#[]⟩) (by simp [results, Tryd.results57, go_sem, z0, z1, z2]) rfl ⟨rfl, ((hbw.setCell (p := ⟨w.heap.size, 0, none⟩) (Nat.le_refl _) _).setCell (p := ⟨w.heap.size, 1, none⟩) (Nat.le_refl _) _).setCell (p := ⟨w.heap.size, 2, none⟩) (Nat.le_refl _) _⟩
end Go.Proofs.YtfcigknalnmhcaaDoor
