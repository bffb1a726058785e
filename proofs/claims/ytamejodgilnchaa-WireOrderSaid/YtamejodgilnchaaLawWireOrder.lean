/- The statement WireOrder: of any two numbers, the one further from nothing never has fewer bytes; there are one to ten, one just below 64 and from -64 on. Conditions: none. -/
import Derived.Test.YtamejodgilnchaaWireAwake
namespace Go.Proofs.Ytamejodgilnchaa
open Go.ChangeShapes Go.WideShapes Go.ChangeAt Go.RowKit

set_option maxHeartbeats 1000000 in
theorem wireorder_walk (a b : Int) (w : World) (ha0 : -9223372036854775808 ≤ a) (ha1 : a ≤ 9223372036854775807) (hb0 : -9223372036854775808 ≤ b) (hb1 : b ≤ 9223372036854775807) :
    Calls Try.prog 7 #[.int .i64 a, .int .i64 b] w fun e w' => e = .returned (.bool true) ∧ Below w.heap.size w w' := by
  have ca := put_nil a w ha0 ha1
  have cb := fun w => put_nil b w hb0 hb1
  have hx1 := putI_pos a
  have hx2 := putI_ten ha0 ha1
  have hy2 := putI_ten hb0 hb1
  have hup := fun h0 h => putI_up (a := a) (b := b) h0 h
  have hdn := fun h0 h => putI_down (a := a) (b := b) h0 h
  have hone := putI_one a
  generalize putI a = X at *
  generalize putI b = Y at *
  have h1 : (0 ≤ a ∧ a ≤ b ∧ X.length ≤ Y.length) ∨ (0 ≤ a ∧ b < a ∧ True) ∨ (a < 0 ∧ b ≤ a ∧ X.length ≤ Y.length) ∨ (a < 0 ∧ a < b ∧ True) := by
    by_cases h : 0 ≤ a
    · by_cases h2 : a ≤ b
      · exact .inl ⟨h, h2, hup h h2⟩
      · exact .inr (.inl ⟨h, by omega, trivial⟩)
    · by_cases h2 : b ≤ a
      · exact .inr (.inr (.inl ⟨by omega, h2, hdn (by omega) h2⟩))
      · exact .inr (.inr (.inr ⟨by omega, by omega, trivial⟩))
  have h2 : (-64 ≤ a ∧ a < 64 ∧ ((X.length : Int) == 1) = true) ∨ (a < -64 ∧ True ∧ ((X.length : Int) == 1) = false) ∨ (-64 ≤ a ∧ 64 ≤ a ∧ ((X.length : Int) == 1) = false) := by
    have hs : -64 ≤ a ∧ a < 64 ∨ a < -64 ∨ 64 ≤ a := by omega
    rcases hs with h | h | h
    · exact .inl ⟨h.1, h.2, by have := hone.2 h; simp; omega⟩
    · exact .inr (.inl ⟨h, trivial, by have : ¬ X.length = 1 := (fun e => by have := hone.1 e; omega); simp; omega⟩)
    · exact .inr (.inr ⟨by omega, h, by have : ¬ X.length = 1 := (fun e => by have := hone.1 e; omega); simp; omega⟩)
  clear hup hdn hone
  rcases h1 with ⟨g1, g2, g3⟩ | ⟨g1, g2, g3⟩ | ⟨g1, g2, g3⟩ | ⟨g1, g2, g3⟩
  all_goals
    rcases h2 with ⟨e1, e2, e3⟩ | ⟨e1, e2, e3⟩ | ⟨e1, e2, e3⟩
    all_goals try (exfalso; omega)
    all_goals
      go_enter Try.func7, Try.ntmps7
      go_wp2_with fail
      refine ca.mono ?_
      rintro e w1 ⟨A1, cap1, rfl, _, _, _, hq1⟩
      go_wp2_with fail
      refine (cb w1).mono ?_
      rintro e w2 ⟨A2, cap2, rfl, _, _, _, hq2⟩
      have hb2 := hq1.trans (hq2.mono hq1.size)
      have haw := awake_any w2
      have HB := Lib.hid hb2
      clear hq1 hq2 hb2
      go_wp2_with fail
      refine haw.mono ?_
      rintro e w3 ⟨rfl, hq3⟩
      go_wp2
      go_ret
      exact ⟨by first | rfl | (have hd : decide (a < 64) = false := (by simp; omega); simp [hd]), HB.out.trans (hq3.mono HB.out.size)⟩
set_option maxRecDepth 100000 in
theorem wireorder_lifted (os : Os) (started : os.Started) (H : Type) (enc : TypeId × Value → H) :
    ReturnsInHanded {} Try.checked os 7 .any (Rows.wireOrderSpec.pre6 enc Try.prog Try.f7 Rows.wireOrderRow.domain false) (Rows.wireOrderSpec.post enc Try.prog Try.f7 false true false false) := by
  refine returnsInHanded_of_change_sized (C := Try.checked) own started (by kernel_rfl) Try.func7
    (ChangeSpec.witness6 (enc := enc) (C := Try.checked) false ⟨#[], #[.int .i64 0, .int .i64 0], []⟩ 8 (by kernel_rfl) (by kernel_rfl) (by kernel_rfl) (by kernel_rfl)) ?_
  intro W base args ds gs before hval0 hW _ hsz0 _
  have hsz : (DataW.weightsEach Try.prog (Try.f7.params.toList ++ Rows.wireOrderSpec.plain.varTypes Try.prog) (ds ++ gs)).all (· ≤ reachBytes) = true := hsz0
  have hval : ∀ (j : Nat) t v, Try.f7.params[j]? = some t → args[j]? = some v → Value.okWide Try.prog W .any base t v := hval0
  have hW' := hW
  obtain ⟨p, q, hA0, hV, rfl, _, _⟩ := hW
  have hA : DataW.TrodAll enc Try.prog W 0 (fun _ => true) true Try.f7.params.toList args.toList ds p := hA0
  rw [Try.params7] at hA hval hsz
  obtain ⟨v0, v1, d0, d1, p0, p1, rfl, rfl, rfl, h0, h1⟩ := trodAll_two hA
  obtain ⟨rfl, rfl⟩ := trodVars_none hV
  simp only [List.append_nil] at hW'
  obtain ⟨x0, rfl, rfl, rfl, wx0⟩ := open_int Try.underlying3 (hval 0 3 v0 rfl rfl) h0
  obtain ⟨x1, rfl, rfl, rfl, wx1⟩ := open_int Try.underlying3 (hval 1 3 v1 rfl rfl) h1
  refine (wireorder_walk x0 x1 W (bounds_i64 wx0).1 (bounds_i64 wx0).2 (bounds_i64 wx1).1 (bounds_i64 wx1).2).mono fun e W' ⟨he, hb⟩ => ?_
  subst he
  exact ⟨_, rfl, _, _, _, [], _, [], hW', trodAll_mk1 (shut_bool Try.underlying4 _), trodAll_mk2 (shut_int Try.underlying3 wx0) (shut_int Try.underlying3 wx1), rfl, hb.frame _, fun h => by cases h⟩

theorem wireorder_holds : Rows.WireOrderSaid :=
  OpenClaim.holds_of_wide 7 Try.f7 rfl rfl rfl rfl rfl rfl rfl ⟨rfl, rfl, rfl, rfl, rfl⟩ rfl rfl rfl rfl rfl (by kernel_rfl) Try.func7 (by kernel_rfl)
    (of_decide_eq_true (by kernel_rfl)) (by unfold Func.isWrapper; first | (rw [if_pos (by decide +kernel)]; kernel_rfl) | (rw [if_neg (by decide +kernel)]; exact ⟨rfl, rfl⟩))
    (fun os started H enc _ => wireorder_lifted os started H enc)
end Go.Proofs.Ytamejodgilnchaa
