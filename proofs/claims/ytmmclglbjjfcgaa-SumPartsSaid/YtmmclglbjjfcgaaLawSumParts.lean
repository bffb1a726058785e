/- The statement SumParts: bytes cut anywhere: the sum of the first part, gone on with over the second, is the whole's. Conditions: none. -/
import Derived.Test.YtmmclglbjjfcgaaSumFrame
import Derived.StillTailTactics
namespace Go.Proofs.Ytmmclglbjjfcgaa
open Go.ChangeShapes Go.WideShapes Go.ChangeAt Go.RowKit

theorem flip_w {f : FuncId} {xs : Array Value} {v : Value} {w : World} (h : Calls Try.prog f xs w fun e w' => e = .returned v ∧ w = w') : Calls Try.prog f xs w fun e w' => e = .returned v ∧ w' = w :=
  h.mono fun _ _ ⟨he, hw⟩ => ⟨he, hw.symm⟩
/-- The three sums, wherever the bytes are cut. -/
theorem parts_calls (A : Option Addr) (L : List UInt8) (cap k : Nat) (w : World) (hlc : L.length ≤ cap) (hcm : cap ≤ 140737488351232) (hB : Bs w A L) (hk : k ≤ L.length) :
    ∃ R Q : Int, (Calls Try.prog 9 #[.slice A k cap] w fun e w' => e = .returned (.int .u32 Q) ∧ w' = w) ∧
      (Calls Try.prog 11 #[.int .u32 Q, .slice (if cap = k then A else A.map (·.add k)) (L.length - k) (cap - k)] w fun e w' => e = .returned (.int .u32 R) ∧ w' = w) ∧
      (Calls Try.prog 9 #[.slice A L.length cap] w fun e w' => e = .returned (.int .u32 R) ∧ w' = w) := by
  have h1 : (L.take k).length = k := by rw [List.length_take]; omega
  have h2 : (L.drop k).length = L.length - k := List.length_drop
  have c1 := of_any A (L.take k) cap w (by omega) (bs_take hB k)
  have c2 := more_any (moreB 0#32 (L.take k)) _ (L.drop k) (cap - k) w (by omega) (bs_drop hB k cap hlc)
  have c3 := of_any A L cap w (by omega) hB
  rw [h1] at c1
  rw [h2, more_more, List.take_append_drop] at c2
  exact ⟨_, _, flip_w c1, flip_w c2, flip_w c3⟩

set_option maxHeartbeats 1000000 in
theorem sumparts_walk (A : Option Addr) (L : List UInt8) (cap : Nat) (v : Int) (w : World) (hlc : L.length ≤ cap) (hcm : cap ≤ 140737488351232) (hB : Bs w A L) (_ : A = none → cap = 0) (hv0 : -9223372036854775808 ≤ v) (hv1 : v ≤ 9223372036854775807) :
    Calls Try.prog 4 #[.slice A L.length cap, .int .i64 v] w fun e w' => e = .returned (.bool true) ∧ Below w.heap.size w w' := by
  obtain ⟨k, hk, cP⟩ := place_nat v (L.length + 1) hv0 hv1 (by omega) (by omega)
  have cPw := cP w
  simp only [Int.natCast_add, Int.cast_ofNat_Int] at cPw
  have hkl : k ≤ L.length := by omega
  have hkc : k ≤ cap := by omega
  obtain ⟨R, Q, c1, c2, c3⟩ := parts_calls A L cap k w.drew hlc hcm hB hkl
  have haw := awake_any w.drew
  clear cP hB hk
  by_cases hck : cap = k
  · subst hck
    rw [if_pos rfl, Nat.sub_self, show L.length - cap = 0 by omega] at c2
    go_enter Try.func4, Try.ntmps4
    go_wp2_with fail
    refine cPw.mono ?_
    rintro e w' ⟨rfl, rfl⟩
    clear cPw
    go_wp2_with fail
    refine wp_region_still_tail 12 (by kernel_rfl) (by kernel_rfl) ?_
    simp only [List.take_succ_cons, List.take_zero, List.drop_succ_cons, List.drop_zero]
    repeat still_step
    still_call c1
    repeat still_step
    still_call c2
    repeat still_step
    still_call c3
    repeat still_step
    refine wpStill_nil ?_
    change wpList _ _ _ _ _ w.drew
    go_wp2_with fail
    refine haw.mono ?_
    rintro e w2 ⟨rfl, hb2⟩
    go_wp2
    go_ret
    exact ⟨rfl, (Below.refl w.heap.size w).drew.trans hb2⟩
  · rw [if_neg hck] at c2
    go_enter Try.func4, Try.ntmps4
    go_wp2_with fail
    refine cPw.mono ?_
    rintro e w' ⟨rfl, rfl⟩
    clear cPw
    go_wp2_with fail
    refine wp_region_still_tail 12 (by kernel_rfl) (by kernel_rfl) ?_
    simp only [List.take_succ_cons, List.take_zero, List.drop_succ_cons, List.drop_zero]
    repeat still_step
    still_call c1
    repeat still_step
    still_call c2
    repeat still_step
    still_call c3
    repeat still_step
    refine wpStill_nil ?_
    change wpList _ _ _ _ _ w.drew
    go_wp2_with fail
    refine haw.mono ?_
    rintro e w2 ⟨rfl, hb2⟩
    go_wp2
    go_ret
    exact ⟨rfl, (Below.refl w.heap.size w).drew.trans hb2⟩
set_option maxRecDepth 100000 in
theorem sumparts_lifted (os : Os) (started : os.Started) (H : Type) (enc : TypeId × Value → H) :
    ReturnsInHanded {} Try.checked os 4 .any (Rows.sumPartsSpec.pre6 enc Try.prog Try.f4 Rows.sumPartsRow.domain false) (Rows.sumPartsSpec.post enc Try.prog Try.f4 false true false false) := by
  refine returnsInHanded_of_change_sized (C := Try.checked) own started (by kernel_rfl) Try.func4
    (ChangeSpec.witness6 (enc := enc) (C := Try.checked) false ⟨#[], #[.slice none 0 0, .int .i64 0], []⟩ 8 (by kernel_rfl) (by kernel_rfl) (by kernel_rfl) (by kernel_rfl)) ?_
  intro W base args ds gs before hval0 hW _ hsz0 _
  have hsz : (DataW.weightsEach Try.prog (Try.f4.params.toList ++ Rows.sumPartsSpec.plain.varTypes Try.prog) (ds ++ gs)).all (· ≤ reachBytes) = true := hsz0
  have hval : ∀ (j : Nat) t v, Try.f4.params[j]? = some t → args[j]? = some v → Value.okWide Try.prog W .any base t v := hval0
  have hW' := hW
  obtain ⟨p, q, hA0, hV, rfl, _, _⟩ := hW
  have hA : DataW.TrodAll enc Try.prog W 0 (fun _ => true) true Try.f4.params.toList args.toList ds p := hA0
  rw [Try.params4] at hA hval hsz
  obtain ⟨v0, v1, d0, d1, p0, p1, rfl, rfl, rfl, h0, h1⟩ := trodAll_two hA
  obtain ⟨rfl, rfl⟩ := trodVars_none hV
  simp only [List.append_nil] at hW'
  have hlt0 : ∀ x ∈ p0, x.block < W.heap.size := fun x hx => hW'.lt x (by simp [hx])
  have h0k := h0
  obtain ⟨A0, L0, c0, rfl, lc0, cm0, B0, N0⟩ := open_bytes Try.underlying23 Try.underlying5 (by kernel_rfl) (hval 0 23 v0 rfl rfl) h0 (fun elems spare e => by
    subst e
    have := sized_slice hsz (j := 0) (t := 23) (e := 5) rfl rfl Try.underlying23
    rwa [show Try.prog.bytesOf 5 = 1 by kernel_rfl] at this)
  obtain ⟨x1, rfl, rfl, rfl, wx1⟩ := open_int Try.underlying3 (hval 1 3 v1 rfl rfl) h1
  refine (sumparts_walk A0 L0 c0 x1 W lc0 cm0 B0 N0 (bounds_i64 wx1).1 (bounds_i64 wx1).2).mono fun e W' ⟨he, hb⟩ => ?_
  subst he
  exact ⟨_, rfl, _, _, _, [], _, [], hW', trodAll_mk1 (shut_bool Try.underlying4 _), trodAll_mk2 (Below.trod laidOut (by kernel_rfl) (of_decide_eq_true (by kernel_rfl)) h0k hb hlt0) (shut_int Try.underlying3 wx1), rfl, hb.frame _, fun h => by cases h⟩

theorem sumparts_holds : Rows.SumPartsSaid :=
  OpenClaim.holds_of_wide 4 Try.f4 rfl rfl rfl rfl rfl rfl rfl ⟨rfl, rfl, rfl, rfl, rfl⟩ rfl rfl rfl rfl rfl (by kernel_rfl) Try.func4 (by kernel_rfl)
    (of_decide_eq_true (by kernel_rfl)) (by unfold Func.isWrapper; first | (rw [if_pos (by decide +kernel)]; kernel_rfl) | (rw [if_neg (by decide +kernel)]; exact ⟨rfl, rfl⟩))
    (fun os started H enc _ => sumparts_lifted os started H enc)
end Go.Proofs.Ytmmclglbjjfcgaa
