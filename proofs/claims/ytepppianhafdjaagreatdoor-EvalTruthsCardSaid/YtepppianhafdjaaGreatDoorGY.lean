/- Several texts in one: LawEvalTruthsW, LawEvalTruthsL. -/
import Derived.Test.YtepppianhafdjaaGreatDoorMEvTrP
import Derived.Test.YtepppianhafdjaaGreatDoorMEvTrQ
import Derived.Test.YtepppianhafdjaaGreatDoorMEvTrR
namespace Go.Proofs.YtepppianhafdjaaGreatDoor
/- EvalTruths: not, and, or are what they are called, of truths; a blank one, where it is needed, makes all bad. -/
section
open Go.RowKit
theorem evaltruths_walk (p q : Int) (w : World) (_ : -9223372036854775808 ≤ p) (_ : p ≤ 9223372036854775807) (_ : -9223372036854775808 ≤ q) (_ : q ≤ 9223372036854775807) (hE : EnvP w) :
    Calls Tryz.prog 8 #[.int .i64 p, .int .i64 q] w fun e w' => e = .returned (.bool true) ∧ Below w.heap.size w w' := by
  obtain ⟨r, hr, r0, r1, hr3⟩ := tmod3 p
  obtain ⟨t, ht, t0, t1, ht3⟩ := tmod3 q
  rcases hr3 with hr3 | hr3 | hr3 <;> rcases ht3 with ht3 | ht3 | ht3
  · exact tr_00 p q w r t hr r0 r1 ht t0 t1 hr3 ht3 hE
  · exact tr_01 p q w r t hr r0 r1 ht t0 t1 hr3 ht3 hE
  · exact tr_02 p q w r t hr r0 r1 ht t0 t1 hr3 ht3 hE
  · exact tr_10 p q w r t hr r0 r1 ht t0 t1 hr3 ht3 hE
  · exact tr_11 p q w r t hr r0 r1 ht t0 t1 hr3 ht3 hE
  · exact tr_12 p q w r t hr r0 r1 ht t0 t1 hr3 ht3 hE
  · exact tr_20 p q w r t hr r0 r1 ht t0 t1 hr3 ht3 hE
  · exact tr_21 p q w r t hr r0 r1 ht t0 t1 hr3 ht3 hE
  · exact tr_22 p q w r t hr r0 r1 ht t0 t1 hr3 ht3 hE
end
/- EvalTruths: the row of the walk. -/
section
open Go.ChangeShapes Go.WideShapes Go.ChangeAt Go.RowKit Go.Lib Go.Shelf
set_option maxRecDepth 1000000 in
theorem evaltruths_lifted (os : Os) (started : os.Started) (H : Type) (enc : TypeId × Value → H) :
    ReturnsInHanded {} Tryz.checked os 8 .any (fun w args => (Rows.evalTruthsSpec.pre enc Tryz.prog Tryz.f8 [] false w args ∧ laidMetH Tryz.prog tabsLaid8 w) ∧ sizedMet enc Tryz.prog Tryz.f8 (OpenSpec.ofChange Rows.evalTruthsSpec) false w args)
      (Rows.evalTruthsSpec.post enc Tryz.prog Tryz.f8 false true false false) := by
  refine returnsInHanded_of_change_and (C := Tryz.checked) (X := fun w _ => laidMetH Tryz.prog tabsLaid8 w) (fun _ _ _ hh h => h.of_heap hh) own started (by kernel_rfl) Tryz.func8
    (ChangeSpec.witness_shaped (enc := enc) (C := Tryz.checked) (os := os) (X := fun w _ => laidMetH Tryz.prog tabsLaid8 w) false (World.laidAll Tryz.prog os tabsLaid8) #[.int .i64 0, .int .i64 0] 8 (World.laidAll_os _ _ _)
      (World.shaped_of_ZipB (by kernel_rfl) (by kernel_rfl)) (by kernel_rfl) (by kernel_rfl) (by kernel_rfl) (start_met8 os _)) ?_
  intro W base args ds gs before hval0 hW _ hsz0 hL _
  have hsz := hsz0
  have hval : ∀ (j : Nat) t v, Tryz.f8.params[j]? = some t → args[j]? = some v → Value.okWide Tryz.prog W .any base t v := hval0
  have hW' := hW
  obtain ⟨p, q, hA0, hV, rfl, hNF, _⟩ := hW
  have hA : DataW.TrodAll enc Tryz.prog W 0 (fun _ => true) true Tryz.f8.params.toList args.toList ds p := hA0
  rw [Tryz.params8] at hA hval
  obtain ⟨v0, v1, d0, d1, p0, p1, rfl, rfl, rfl, h0, h1⟩ := trodAll_two hA
  obtain ⟨rfl, rfl⟩ := trodVars_none hV
  obtain ⟨x0, rfl, rfl, rfl, wx0⟩ := open_int Tryz.underlying3 (hval 0 3 v0 rfl rfl) h0
  obtain ⟨x1, rfl, rfl, rfl, wx1⟩ := open_int Tryz.underlying3 (hval 1 3 v1 rfl rfl) h1
  simp only [List.append_nil] at hW'
  refine (evaltruths_walk x0 x1 W (bounds_i64 wx0).1 (bounds_i64 wx0).2 (bounds_i64 wx1).1 (bounds_i64 wx1).2 (envP_of_laid hL)).mono fun e W' ⟨he, hb⟩ => ?_
  subst he
  exact ⟨_, rfl, _, _, _, [], _, [], hW', trodAll_mk1 (shut_bool Tryz.underlying4 _), trodAll_mk2 (shut_int Tryz.underlying3 wx0) (shut_int Tryz.underlying3 wx1), rfl, hb.frame _, fun h => by cases h⟩
end
end Go.Proofs.YtepppianhafdjaaGreatDoor
