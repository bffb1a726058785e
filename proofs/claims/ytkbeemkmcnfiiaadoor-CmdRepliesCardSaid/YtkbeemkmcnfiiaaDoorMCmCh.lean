/- The contract of cmd.Check of the first kind; how Get ends. -/
import Derived.Test.YtkbeemkmcnfiiaaDoorMCmS
namespace Go.Proofs.YtkbeemkmcnfiiaaDoor
open Go.RowKit

theorem below_setR {w w8 : World} {R : Nat} (h : Below w.heap.size w w8) (hR : w.heap.size ≤ R) (i : Nat) (u : Value) : Below w.heap.size w (w8.setCell ⟨R, i, none⟩ u) := h.trans ((Only.one _ _ _ _).below hR)
set_option maxHeartbeats 1000000 in
set_option maxRecDepth 100000 in
theorem pck_1 (se sq : Int) (f : ByteArray) (ve K n : Int) (s : ByteArray) (w : World) :
    Calls Tryd.prog 13 #[V8 1 se sq f ve K n s] w fun e w' => e = .returned (.bool (sameC 1 se sq f ve K n s 1 0 0 (txt []) 0 0 0 (txt []))) ∧ Below w.heap.size w w' := by
  have b0 := below_alloc w (.cells (cs8 1 se sq f ve K n s) 36)
  have C0 := Blk.new w (cs8 1 se sq f ve K n s) 36
  obtain ⟨w0, hw0⟩ : ∃ w0, w.alloc (.cells (cs8 1 se sq f ve K n s) 36) = w0 := ⟨_, rfl⟩
  rw [hw0] at b0 C0
  have hqi := fun w => eqlIn_cmd 1 se sq f ve K n s 1 0 0 (txt []) 0 0 0 (txt []) w
  have hqs := fun w => eql_cmd 1 se sq f ve K n s 1 0 0 (txt []) 0 0 0 (txt []) w
  generalize sameC 1 se sq f ve K n s 1 0 0 (txt []) 0 0 0 (txt []) = RR at *
  go_enter Tryd.func13, Tryd.ntmps13
  obtain ⟨hl, c0, c1, c2, c3, c4, c5, c6, c7⟩ := C0.c8
  go_wp2_with fail
  refine (parts_1 _).mono ?_
  rintro x w1 ⟨rfl, hb1⟩
  have C1 := C0.later hb1
  have hbw1 := below_to b0 hb1
  have HB := Lib.hid ((hbw1.alloc hbw1.size (.cells #[.bool false, .bool false, .bool false] 52)).alloc (by have := hbw1.size; simp; omega) (.cells (cs8 1 se sq f ve K n s) 36))
  clear hl c0 c1 c2 c3 c4 c5 c6 c7 hw0 b0 hb1 C0 hbw1
  obtain ⟨hl, c0, c1, c2, c3, c4, c5, c6, c7⟩ := C1.c8
  go_wp2
  go_ret
  exact ⟨rfl, HB.out⟩
theorem sameC_is {kd se sq : Int} {f : ByteArray} {ve K n : Int} {s : ByteArray} {kd' se' sq' : Int} {f' : ByteArray} {ve' K' n' : Int} {s' : ByteArray} {B : Bool}
    (h : (kd = kd' ∧ se = se' ∧ sq = sq' ∧ f = f' ∧ ve = ve' ∧ K = K' ∧ n = n' ∧ s = s') ↔ B = true) : sameC kd se sq f ve K n s kd' se' sq' f' ve' K' n' s' = B :=
  Bool.eq_iff_iff.2 ((sameC_iff _ _ _ _ _ _ _ _ _ _ _ _ _ _ _ _).trans h)
theorem txt_is (s : ByteArray) : s = txt [] ↔ s.data.toList = [] := ⟨fun h => by rw [h], txt_nil⟩
theorem pcheck_1 (se sq : Int) (f : ByteArray) (ve K n : Int) (s : ByteArray) (_ : Cm.In ⟨1, se, sq, f, ve, K, n, s⟩) (w : World) :
    Calls Tryd.prog 13 #[V8 1 se sq f ve K n s] w fun e w' => e = .returned (.bool (cmdB ⟨1, se, sq, f, ve, K, n, s⟩)) ∧ Below w.heap.size w w' := by
  have c := pck_1 se sq f ve K n s w
  rwa [sameC_is (B := cmdB ⟨1, se, sq, f, ve, K, n, s⟩) (by rw [cmdB_1 rfl]; simp [cmd1, txt_is, and_assoc])] at c
def GotC (w : World) (p : Cm × Bool) (e : Ending) (w' : World) : Prop := e = .returned (.tuple #[V8 p.1.kd p.1.se p.1.sq p.1.f p.1.ve p.1.K p.1.n p.1.s, .bool p.2]) ∧ Below w.heap.size w w'
theorem below_set8 {w w8 : World} {R : Nat} (h : Below w.heap.size w w8) (hR : w.heap.size ≤ R) (a b c d e f g i : Value) :
    Below w.heap.size w ((((((((w8.setCell ⟨R, 0, none⟩ a).setCell ⟨R, 1, none⟩ b).setCell ⟨R, 2, none⟩ c).setCell ⟨R, 3, none⟩ d).setCell ⟨R, 4, none⟩ e).setCell ⟨R, 5, none⟩ f).setCell ⟨R, 6, none⟩ g).setCell ⟨R, 7, none⟩ i) :=
  below_setR (below_setR (below_setR (below_setR (below_setR (below_setR (below_setR (below_setR h hR _ _) hR _ _) hR _ _) hR _ _) hR _ _) hR _ _) hR _ _) hR _ _
theorem stT_24 (s : St) : (⟨(stT 24 s).1.toArray⟩ : ByteArray).size ≤ 9223372036854775807 := by
  show (stT 24 s).1.toArray.size ≤ _
  rw [List.size_toArray]
  have h : (stC 24 s).1 ≤ 24 := by
    by_cases h : 0 ≤ (stI s).1 ∧ (stI s).1 ≤ 24 ∧ (stI s).1 ≤ ((stI s).2.1.length : Int)
    · rw [stC_yes h]; exact h.2.1
    · rw [stC_no h]; decide
  unfold stT
  dsimp only
  rw [List.length_take]
  omega
/-- How a command that was read ends. -/
theorem endC_of (c : Cm) (s3 : St) :
    ((!s3.2 && s3.1.length == 0) = false → endC (c, s3) = (Cm.zero, false)) ∧ ((!s3.2 && s3.1.length == 0) = true → cmdB c = false → endC (c, s3) = (Cm.zero, false)) ∧
    ((!s3.2 && s3.1.length == 0) = true → cmdB c = true → endC (c, s3) = (c, true)) := by
  refine ⟨fun h1 => endC_no fun k => ?_, fun _ h2 => endC_no fun k => ?_, fun h1 h2 => ?_⟩
  · dsimp only at k
    rw [k.1.1, k.1.2] at h1
    cases h1
  · rw [h2] at k
    cases k.2
  · simp only [Bool.and_eq_true, Bool.not_eq_true', beq_iff_eq] at h1
    exact endC_yes h1.1 (List.eq_nil_of_length_eq_zero h1.2) h2
end Go.Proofs.YtkbeemkmcnfiiaaDoor
