/- TypesMore: the row of the walk. -/
import Derived.Test.YtaaibciacipelaaGreatDoorLawTypesMoreW
import Derived.Test.YtaaibciacipelaaGreatDoorHD
namespace Go.Proofs.YtaaibciacipelaaGreatDoor
open Go.ChangeShapes Go.WideShapes Go.ChangeAt Go.RowKit Go.Lib Go.Shelf
set_option maxRecDepth 1000000 in
theorem typesmore_lifted (os : Os) (started : os.Started) (H : Type) (enc : TypeId × Value → H) :
    ReturnsInHanded {} Tryz.checked os 3 .any (fun w args => (Rows.typesMoreSpec.pre enc Tryz.prog Tryz.f3 [] false w args ∧ laidMetH Tryz.prog tabsLaid8 w) ∧ sizedMet enc Tryz.prog Tryz.f3 (OpenSpec.ofChange Rows.typesMoreSpec) false w args)
      (Rows.typesMoreSpec.post enc Tryz.prog Tryz.f3 false true false false) := by
  refine returnsInHanded_of_change_and (C := Tryz.checked) (X := fun w _ => laidMetH Tryz.prog tabsLaid8 w) (fun _ _ _ hh h => h.of_heap hh) own started (by kernel_rfl) Tryz.func3
    (ChangeSpec.witness_shaped (enc := enc) (C := Tryz.checked) (os := os) (X := fun w _ => laidMetH Tryz.prog tabsLaid8 w) false (World.laidAll Tryz.prog os tabsLaid8) #[.agg #[.int .i64 0, .int .i64 0, .string ⟨#[]⟩, .slice none 0 0], .slice none 0 0, .slice none 0 0, .string ⟨#[]⟩, .int .i64 0] 8 (World.laidAll_os _ _ _)
      (World.shaped_of_ZipB (by kernel_rfl) (by kernel_rfl)) (by kernel_rfl) (by kernel_rfl) (by kernel_rfl) (start_met8 os _)) ?_
  intro W base args ds gs before hval0 hW _ hsz0 hL _
  have hsz := hsz0
  have hval : ∀ (j : Nat) t v, Tryz.f3.params[j]? = some t → args[j]? = some v → Value.okWide Tryz.prog W .any base t v := hval0
  have hW' := hW
  obtain ⟨p, q, hA0, hV, rfl, hNF, _⟩ := hW
  have hA : DataW.TrodAll enc Tryz.prog W 0 (fun _ => true) true Tryz.f3.params.toList args.toList ds p := hA0
  rw [Tryz.params3] at hA hval
  obtain ⟨v0, v1, v2, v3, v4, d0, d1, d2, d3, d4, p0, p1, p2, p3, p4, rfl, rfl, rfl, h0, h1, h2, h3, h4⟩ := trodAll_five hA
  obtain ⟨rfl, rfl⟩ := trodVars_none hV
  have hlt0 : ∀ x ∈ p0, x.block < W.heap.size := fun x hx => hW'.lt x (by simp [hx])
  have h0k := h0
  obtain ⟨e0, he0⟩ := open_expr (hval 0 24 v0 rfl rfl) h0 (fun b off hb => hNF b off (by simp [hb])) (fun k hk => by
    have := List.all_eq_true.1 hsz _ (DataW.weights_mem_each (j := 0) (t := 24) rfl rfl k hk)
    simpa using this)
  have hlt1 : ∀ x ∈ p1, x.block < W.heap.size := fun x hx => hW'.lt x (by simp [hx])
  have h1k := h1
  obtain ⟨A1, L1, X1, c1, rfl, lc1, B1, D1, Q1⟩ := open_texts Tryz.underlying25 Tryz.underlying9 (by kernel_rfl) (hval 1 25 v1 rfl rfl) h1
  have cm1 : L1.length ≤ 140737488351232 := by
    rcases D1 with ⟨rfl, hl⟩ | ⟨rfl, hc⟩
    · rw [hl]; exact Nat.zero_le _
    · have := sized_slice hsz (j := 1) (t := 25) (e := 9) rfl rfl Tryz.underlying25
      rw [show Tryz.checked.prog.bytesOf 9 = 16 by kernel_rfl] at this
      simp only [strs, List.length_map] at this
      unfold reachBytes at this; omega
  have hlt2 : ∀ x ∈ p2, x.block < W.heap.size := fun x hx => hW'.lt x (by simp [hx])
  have h2k := h2
  obtain ⟨A2, L2, c2, rfl, lc2, cm2, B2, N2, Q2⟩ := open_nums Tryz.underlying26 Tryz.underlying3 (by kernel_rfl) (hval 2 26 v2 rfl rfl) h2 (fun elems spare e => by
    subst e
    have := sized_slice hsz (j := 2) (t := 26) (e := 3) rfl rfl Tryz.underlying26
    rwa [show Tryz.checked.prog.bytesOf 3 = 8 by kernel_rfl] at this)
  obtain ⟨x3, rfl, rfl, rfl, wx3⟩ := Go.ChangeMaps.open_string Tryz.underlying9 (hval 3 9 v3 rfl rfl) h3
  have rx3 : x3.size ≤ 9223372036854775807 := by have := wx3; unfold maxLen at this; omega
  obtain ⟨x4, rfl, rfl, rfl, wx4⟩ := open_int Tryz.underlying3 (hval 4 3 v4 rfl rfl) h4
  simp only [List.append_nil] at hW'
  refine (typesmore_walk v0 e0 A1 L1 c1 A2 L2 c2 x3 x4 W he0 lc1 cm1 B1 Q1 lc2 cm2 B2 N2 Q2 rx3 (bounds_i64 wx4).1 (bounds_i64 wx4).2 (envP_of_laid hL)).mono fun e W' ⟨he, hb⟩ => ?_
  subst he
  exact ⟨_, rfl, _, _, _, [], _, [], hW', trodAll_mk1 (shut_bool Tryz.underlying4 _), trodAll_mk5 (Below.trod laidOut (by kernel_rfl) (of_decide_eq_true (by kernel_rfl)) h0k hb hlt0) (Below.trod laidOut (by kernel_rfl) (of_decide_eq_true (by kernel_rfl)) h1k hb hlt1) (Below.trod laidOut (by kernel_rfl) (of_decide_eq_true (by kernel_rfl)) h2k hb hlt2) (Go.ChangeMaps.shut_string Tryz.underlying9 wx3) (shut_int Tryz.underlying3 wx4), rfl, hb.frame _, fun h => by cases h⟩
end Go.Proofs.YtaaibciacipelaaGreatDoor
