/- The statement FrameLimits (closed): a body of as many bytes as there may be is framed and read back; of one more it is refused. Conditions: none. -/
import Derived.Test.YtpkbjiakjofcnaaFLaws
import Derived.Laws.MakeOwn
import Derived.Laws.OwnMore
namespace Go.Proofs.Ytpkbjiakjofcnaa
open Go.ChangeShapes Go.WideShapes Go.ChangeAt Go.RowKit

theorem info_u8 : (Try.prog.info? 5).map (fun i => (i.zero, i.size, i.bytes)) = some (some (.int .u8 0), 1, 1) := by kernel_rfl
theorem mk_bytes (n : Nat) (hn : n ≤ 140737488351232) (u : World) : (Instr.makeSlice 22 (.int .i64 (n : Int)) (.int .i64 (n : Int))).run Try.prog u =
      .ok (.slice (some ⟨u.heap.size, 0, none⟩) n n) (u.alloc (.cells (madeCells #[.int .u8 0] n) 5)) := by
  obtain ⟨i0, hi, hz0, hz1, hz2⟩ := info_parts info_u8
  have h := run_make (P := Try.prog) u 22 5 i0 (.int .u8 0) Try.underlying22 hi hz0 .i64 .i64 (n : Int) (n : Int) (by omega) (Int.le_refl _) (by rw [hz2]; omega) (by omega)
  simpa [hz1, Value.cells] using h
theorem made_bs (n : Nat) (w : World) : Bs (w.alloc (.cells (madeCells #[.int .u8 0] n) 5)) (some ⟨w.heap.size, 0, none⟩) (List.replicate n 0) := by
  refine fun _ => ⟨_, 0, rfl, fun j hj => ?_⟩
  rw [List.length_replicate] at hj
  rw [Nat.zero_add, cell_of_row _ _ j _ _ _ (heap_alloc_new w _)]
  have e : (List.replicate n (0 : UInt8)).getD j 0 = 0 := by rw [List.getD_eq_getElem?_getD, List.getElem?_replicate, if_pos hj]; rfl
  have hs : j < (madeCells #[Value.int .u8 0] n).size := by rw [size_madeCells]; exact hj
  have h2 : (madeCells #[Value.int .u8 0] n).toList[j]? = some (.int .u8 0) := by rw [toList_madeCells_one, List.getElem?_replicate, if_pos hj]
  rw [e, ← Array.getElem?_toList, h2]
  rfl
/-- What is made: bytes, so many. -/
theorem made_any (n : Nat) (hn : n ≤ 140737488351232) : ∃ (X : Obj) (L : List UInt8), L.length = n ∧ (∀ u : World, (Instr.makeSlice 22 (.int .i64 (n : Int)) (.int .i64 (n : Int))).run Try.prog u = .ok (.slice (some ⟨u.heap.size, 0, none⟩) n n) (u.alloc X)) ∧ ∀ u : World, Bs (u.alloc X) (some ⟨u.heap.size, 0, none⟩) L :=
  ⟨.cells (madeCells #[.int .u8 0] n) 5, List.replicate n 0, List.length_replicate, mk_bytes n hn, made_bs n⟩
theorem seven_bs (w : World) (t : TypeId) (z : Nat × Nat) : Bs (w.alloc (.cells #[.int .u8 7] t z)) (some ⟨w.heap.size, 0, none⟩) [7] := by
  refine fun _ => ⟨_, 0, rfl, fun j hj => ?_⟩
  rw [Nat.zero_add, cell_of_row _ _ j _ t z (heap_alloc_new w _)]
  simp only [List.length_cons, List.length_nil] at hj
  obtain rfl : j = 0 := by omega
  rfl

set_option maxHeartbeats 1000000 in
theorem framelimits_walk (w : World) : Calls Try.prog 8 #[] w fun e w' => e = .returned (.bool true) ∧ Below w.heap.size w w' := by
  obtain ⟨X, L, hL, kX, hX⟩ := made_any 1048576 (by omega)
  obtain ⟨Y, M, hM, kY, hY⟩ := made_any 1048577 (by omega)
  simp only [Int.cast_ofNat_Int] at kX kY
  have hok : okF L := ⟨by omega, by omega⟩
  have hno : ¬ okF M := fun h => by have := h.2; omega
  have cp := put_yes none (some ⟨w.heap.size, 0, none⟩) [] L 0 1048576 (w.alloc X) (by simp) hok (Bs.nil _ _) (hX w)
  simp only [List.nil_append, List.length_nil] at cp
  rw [hL] at cp
  have hfl := putF_len L
  have hp4 := putI_ten (v := (L.length : Int)) (by omega) (by omega)
  have hfr : fr ((putF L).drop 0) = some L := by have h := fr_put hok []; rwa [List.append_nil] at h
  obtain ⟨F, hF⟩ : ∃ F, putF L = F := ⟨_, rfl⟩
  rw [hF] at cp hfl hfr
  obtain ⟨n, hn⟩ : ∃ n, F.length = n := ⟨_, rfl⟩
  have hnb : n ≤ 1048600 := by omega
  have e1 : gB F 0 = L := by unfold gB; rw [hfr]; rfl
  have e2 : gN F 0 = (n : Int) := by unfold gN; rw [hfr]; simp only [hF, hn, Nat.zero_add]
  have e3 : gE F 0 = 0 := by unfold gE; rw [hfr]
  have HL := Lib.hid hL
  have HM := Lib.hid hM
  have HN := Lib.hid hn
  have HX := Lib.hid hX
  have HY := Lib.hid hY
  clear hfl hp4 hfr hF hL hM hn hX hY hok
  go_enter Try.func8, Try.ntmps8
  go_wp2_with fail
  (with_reducible refine cp.mono ?_)
  rintro e w1 ⟨A1, cap1, rfl, hB1, _, hown, hb1⟩
  rw [HN.out] at hown ⊢
  have hcc := own_cap hown
  have HB1 := Lib.hid hB1
  have HQ1 := Lib.hid (((Below.refl _ w).alloc (Nat.le_refl _) X).trans (hb1.mono (by simp)))
  clear cp hown hB1 hb1
  have cq := fun (t : TypeId) (z : Nat × Nat) => put_no (some ⟨w1.heap.size, 0, none⟩) (some ⟨w1.heap.size + 1, 0, none⟩) [7] M 1 1048577 ((w1.alloc (.cells #[.int .u8 7] t z)).alloc Y) (by simp) hno (by rw [HM.out]; omega) ((seven_bs w1 t z).below ((Below.refl _ _).alloc (Nat.le_refl _) _)) (fun h => by cases h)
  rw [HM.out] at cq
  simp only [List.length_cons, List.length_nil, Nat.zero_add] at cq
  go_wp2_with fail
  (with_reducible refine (cq _ _).mono ?_)
  rintro e w2 ⟨A2, cap2, rfl, _, _, _, hb2⟩
  have HQ12 := Lib.hid ((((Below.refl _ w1).alloc (Nat.le_refl _) (.cells #[.int .u8 7] 5)).alloc (by simp) Y).trans (hb2.mono (by simp; omega)))
  have HQ2 := Lib.hid (HQ1.out.trans (HQ12.out.mono HQ1.out.size))
  have cg := get_in A1 F cap1 0 w2 (by rw [HN.out]; omega) (by rw [HN.out]; exact hcc) (Nat.zero_le _) (HB1.out.below HQ12.out)
  rw [HN.out, e1, e2, e3, show ((0 : Nat) : Int) = 0 from rfl] at cg
  clear cq hb2 HB1 HQ1 HQ12 e1 e2 e3 kX kY
  go_wp2_with fail
  (with_reducible refine cg.mono ?_)
  rintro e w3 ⟨A3, cap3, rfl, _, _, hb3⟩
  have haw := awake_any w3
  have HQ3 := Lib.hid (HQ2.out.trans (hb3.mono HQ2.out.size))
  rw [HL.out]
  clear cg hb3 HQ2
  go_wp2_with fail
  (with_reducible refine haw.mono ?_)
  rintro e w4 ⟨rfl, hb4⟩
  go_wp2
  go_ret
  exact ⟨rfl, HQ3.out.trans (hb4.mono HQ3.out.size)⟩
set_option maxRecDepth 100000 in
theorem framelimits_lifted (os : Os) (started : os.Started) (H : Type) (enc : TypeId × Value → H) :
    ReturnsInHanded {} Try.checked os 8 .any (Rows.frameLimitsSpec.pre6 enc Try.prog Try.f8 Rows.frameLimitsRow.domain false) (Rows.frameLimitsSpec.post enc Try.prog Try.f8 false true false false) := by
  refine returnsInHanded_of_change_sized (C := Try.checked) own started (by kernel_rfl) Try.func8
    (ChangeSpec.witness6 (enc := enc) (C := Try.checked) false ⟨#[], #[], []⟩ 8 (by kernel_rfl) (by kernel_rfl) (by kernel_rfl) (by kernel_rfl)) ?_
  intro W base args ds gs before hval0 hW _ hsz0 _
  have hsz : (DataW.weightsEach Try.prog (Try.f8.params.toList ++ Rows.frameLimitsSpec.plain.varTypes Try.prog) (ds ++ gs)).all (· ≤ reachBytes) = true := hsz0
  have hval : ∀ (j : Nat) t v, Try.f8.params[j]? = some t → args[j]? = some v → Value.okWide Try.prog W .any base t v := hval0
  have hW' := hW
  obtain ⟨p, q, hA0, hV, rfl, _, _⟩ := hW
  have hA : DataW.TrodAll enc Try.prog W 0 (fun _ => true) true Try.f8.params.toList args.toList ds p := hA0
  rw [Try.params8] at hA hval hsz
  obtain ⟨rfl, rfl, rfl⟩ := trodAll_none hA
  obtain ⟨rfl, rfl⟩ := trodVars_none hV
  simp only [List.append_nil] at hW'
  refine (framelimits_walk  W ).mono fun e W' ⟨he, hb⟩ => ?_
  subst he
  exact ⟨_, rfl, _, _, _, [], _, [], hW', trodAll_mk1 (shut_bool Try.underlying4 _), trodAll_mk0 , rfl, hb.frame _, fun h => by cases h⟩

theorem framelimits_holds : Rows.FrameLimitsSaid :=
  OpenClaim.holds_of_wide 8 Try.f8 rfl rfl rfl rfl rfl rfl rfl ⟨rfl, rfl, rfl, rfl, rfl⟩ rfl rfl rfl rfl rfl (by kernel_rfl) Try.func8 (by kernel_rfl)
    (of_decide_eq_true (by kernel_rfl)) (by unfold Func.isWrapper; first | (rw [if_pos (by decide +kernel)]; kernel_rfl) | (rw [if_neg (by decide +kernel)]; exact ⟨rfl, rfl⟩))
    (fun os started H enc _ => framelimits_lifted os started H enc)
end Go.Proofs.Ytpkbjiakjofcnaa
