/- The statement RunesGo: for every string, runes.List, At, Valid, Count tell what Go's own range over it and its package utf8 tell. Conditions: none beside the two tables of unicode/utf8, as their text lays them (the card ties them). -/
import Derived.Test.YtocejllclpdnnaaDoorFrame
import Derived.Test.YtocejllclpdnnaaDoorAt
import Derived.Test.YtocejllclpdnnaaDoorList
import Derived.Test.YtocejllclpdnnaaDoorValid
namespace Go.Proofs.YtocejllclpdnnaaDoor
open Go.ChangeShapes Go.WideShapes Go.ChangeAt Go.RowKit Go.Lib

def GoRel (s : ByteArray) (w1 wr : World) (pos k : Nat) : Prop :=
  wr.heap[w1.heap.size]? = some (.stringIter s pos) ∧ Below w1.heap.size w1 wr ∧ runesL (s.data.toList.drop pos) = (runesL s.data.toList).drop k ∧ (∀ j, atL (s.data.toList.drop pos) j = atL s.data.toList (pos + j)) ∧ pos ≤ s.size ∧ k ≤ pos ∧ k ≤ (runesL s.data.toList).length
theorem goRel_step (s : ByteArray) (w1 wr w2 : World) (pos k : Nat) (h : GoRel s w1 wr pos k) (hp : pos < s.size) (hit : w2.heap[w1.heap.size]? = some (.stringIter s (pos + (Utf8.decode s pos).2))) (hb : Below w1.heap.size w1 w2) :
    GoRel s w1 w2 (pos + (Utf8.decode s pos).2) (k + 1) ∧ k < (runesL s.data.toList).length ∧ (runesL s.data.toList)[k]? = some (Utf8.decode s pos).1 ∧ atL s.data.toList pos = some (Utf8.decode s pos) := by
  obtain ⟨_, _, hr, ha, hps, hkp, hkn⟩ := h
  obtain ⟨hw1, hw2⟩ := width_in s pos hp
  rw [runesL_at s pos hp] at hr
  have hlt : k < (runesL s.data.toList).length := by
    have := congrArg List.length hr; rw [List.length_cons, List.length_drop] at this; omega
  have hk : (runesL s.data.toList)[k]? = some (Utf8.decode s pos).1 := by
    have := congrArg (fun l : List Nat => l[0]?) hr
    simp only [List.getElem?_cons_zero, List.getElem?_drop, Nat.add_zero] at this
    exact this.symm
  refine ⟨⟨hit, hb, ?_, ?_, hw2, by omega, by omega⟩, hlt, hk, ?_⟩
  · have := congrArg (fun l : List Nat => l.drop 1) hr
    simpa [List.drop_drop] using this
  · intro j
    have := ha ((Utf8.decode s pos).2 + j)
    rw [atL_step _ (drop_ne s pos hp), if_neg (by omega), Lib.decodeL_drop, if_neg (by omega), List.drop_drop, Nat.add_sub_cancel_left] at this
    rw [this, Nat.add_assoc]
  · have := ha 0
    rw [atL_zero _ (drop_ne s pos hp), Lib.decodeL_drop, Nat.add_zero] at this
    exact this.symm

set_option maxHeartbeats 4000000 in
set_option maxRecDepth 1000000 in
theorem go_walk (s : ByteArray) (w : World) (hs : s.size ≤ 9223372036854775807) (hT : Tabs w) :
    Calls Tryd.prog 7 #[.string s] w fun e w' => e = .returned (.bool true) ∧ Below w.heap.size w w' := by
  by_cases hbig : 5000 < s.size
  · have hb : decide ((s.size : Int) > 5000) = true := decide_eq_true (by omega)
    go_enter Tryd.func7, Tryd.ntmps7
    go_wp2_with fail
    refine (awake_any _ hT).mono ?_
    rintro e w1 ⟨rfl, hb⟩
    go_wp2
    go_ret
    exact ⟨rfl, hb⟩
  · have hsmall : s.size ≤ 5000 := by omega
    go_enter Tryd.func7, Tryd.ntmps7
    go_wp2_with fail
    refine (list_any s _ (by omega)).mono ?_
    rintro e w1 ⟨v, rfl, hown, hb1⟩
    obtain ⟨ao, cap, rfl, hnc, hcm, hg⟩ := own_slice hown
    have hN5 : (runesL s.data.toList).length ≤ 5000 := by rw [runesL_len, ← runeCount_eq]; have := Lib.runeCount_le s; omega
    have hT1 := hT.later hb1
    have h0 : GoRel s w1 (w1.iter s 0) 0 0 := ⟨World.iter_heap w1 s 0, iter_below _ _ _, rfl, fun j => by rw [List.drop_zero, Nat.zero_add], Nat.zero_le _, Nat.le_refl _, Nat.zero_le _⟩
    have HG := Lib.hid hg
    have H0 := Lib.hid h0
    have HB1 := Lib.hid hb1
    clear hown hg h0 hb1 hcm
    obtain ⟨N, hN⟩ : ∃ N, (runesL s.data.toList).length = N := ⟨_, rfl⟩
    rw [hN] at HG hnc hN5
    have HN := Lib.hid hN
    rw [hN]
    clear hN
    go_wp2
    go_loopw [4] (fun kv wr => ∃ pos k, GoRel s w1 wr pos k ∧ kv = .int .i64 (k : Int)) (fun _ wr => s.size - wr.iterPos w1.heap.size)
    case atStart => exact ⟨0, 0, H0.out, rfl⟩
    case round =>
      obtain ⟨pos, k, hrel, rfl⟩ := hrel
      have hit := hrel.1
      have hbw := hrel.2.1
      have hps := hrel.2.2.2.2.1
      have hkp := hrel.2.2.2.2.2.1
      have hip : wr.iterPos w1.heap.size = pos := by simp only [World.iterPos, hit]
      have HIP := Lib.hid hip
      have HREL := Lib.hid hrel
      clear hip hrel
      have hsz : w1.heap.size < wr.heap.size := (Array.getElem?_eq_some_iff.1 hit).1
      by_cases hp : pos < s.size
      · have hnx : ∀ ty, (Instr.next (.pointer (some ⟨w1.heap.size, 0, none⟩)) true ty).run Tryd.prog wr = _ := fun ty => Lib.run_next_any_at wr w1.heap.size s pos ty hit hp
        obtain ⟨hw1, hw2⟩ := width_in s pos hp
        have hit2 := Lib.iterAt_heap wr w1.heap.size s pos (pos + (Utf8.decode s pos).2) hit
        have hbw2 := Lib.below_iterAt hbw (k := w1.heap.size) (Nat.le_refl _) s (pos + (Utf8.decode s pos).2)
        obtain ⟨W, hW⟩ : ∃ W, wr.iterAt w1.heap.size s (pos + (Utf8.decode s pos).2) = W := ⟨_, rfl⟩
        rw [hW] at hnx hit2 hbw2
        clear hW hit hbw
        have hW2 : w1.heap.size < W.heap.size := (Array.getElem?_eq_some_iff.1 hit2).1
        have hstep := goRel_step s w1 wr W pos k HREL.out hp hit2 hbw2
        rw [HN.out] at hstep
        obtain ⟨_, hkN, hk, hat⟩ := hstep
        obtain ⟨g, rfl, hgl, hcells⟩ := HG.out (by omega)
        have hcell : W.cell? ⟨g, k, none⟩ = some (.int .i32 ((Utf8.decode s pos).1 : Int)) := by
          rw [hbw2.cell (p := ⟨g, k, none⟩) hgl]
          exact hcells k _ (by unfold runeVals; rw [List.getElem?_map, hk]; rfl)
        have hAt : Calls Tryd.prog 23 #[.string s, .int .i64 (pos : Int)] W fun e w' => e = .returned (.tuple #[.int .i32 ((Utf8.decode s pos).1 : Int), .int .i64 ((Utf8.decode s pos).2 : Int), .bool true]) ∧ Below W.heap.size W w' := by
          have c := at_any s pos W (by omega) (by omega) (by omega) (hT1.later hbw2)
          have e : atV (atZ s.data.toList (pos : Int)) = .tuple #[.int .i32 ((Utf8.decode s pos).1 : Int), .int .i64 ((Utf8.decode s pos).2 : Int), .bool true] := by
            unfold atZ; rw [if_pos (by omega), Int.toNat_natCast, hat]; rfl
          rw [e] at c; exact c
        have HAT := Lib.hid hAt
        have HIT2 := Lib.hid hit2
        have HBW2 := Lib.hid hbw2
        clear hit2 hbw2 hk hat hAt hcells
        go_wp2_with fail
        refine HAT.out.mono ?_
        rintro e w2 ⟨rfl, hb2⟩
        have hstep2 := goRel_step s w1 wr w2 pos k HREL.out hp ((hb2.block w1.heap.size hW2).trans HIT2.out) (HBW2.out.trans (hb2.mono (Nat.le_of_lt hW2)))
        have HS2 := Lib.hid hstep2.1
        clear hstep2 hb2 hnx
        go_wp2
        go_roundw
        case rel => exact ⟨_, _, HS2.out, by go_num⟩
        case measure =>
          rw [HIP.out]
          simp only [World.iterPos, HS2.out.1]
          omega
      · have hnx : ∀ ty, (Instr.next (.pointer (some ⟨w1.heap.size, 0, none⟩)) true ty).run Tryd.prog wr = _ := fun ty => Lib.run_next_end_at wr w1.heap.size s pos ty hit hp
        have hkN : k ≤ N ∧ N ≤ k := by
          obtain ⟨_, _, hr, _, _, _, hkn⟩ := HREL.out
          rw [drop_nil s pos hp, runesL_nil] at hr
          have := congrArg List.length hr
          rw [List.length_drop, HN.out, List.length_nil] at this
          rw [HN.out] at hkn
          omega
        have hkb : ((k : Int) == (N : Int)) = true := beq_iff_eq.2 (by omega)
        have hbw0 := HB1.out.trans (hbw.mono HB1.out.size)
        have hTr : Tabs wr := hT.later hbw0
        have HBW := Lib.hid hbw0
        have hV := valid_any s
        have hU := validString_any s
        generalize validL s.data.toList = V at hV hU
        have HV := Lib.hid hV; have HU := Lib.hid hU
        clear hV hU hbw hbw0 hit
        go_wp2_with fail
        refine (HV.out _ (by omega) hTr).mono ?_
        rintro e w2 ⟨rfl, b2⟩
        have hT2 := hTr.later b2
        have b12 := HBW.out.trans (b2.mono HBW.out.size)
        clear b2
        go_wp2_with fail
        refine (HU.out _ (by omega) hT2).mono ?_
        rintro e w3 ⟨rfl, b3⟩
        have hT3 := hT2.later b3
        have b13 := b12.trans (b3.mono b12.size)
        clear b3 b12
        go_wp2_with fail
        refine (count_any s _ (by omega)).mono ?_
        rintro e w4 ⟨rfl, b4⟩
        have hT4 := hT3.later b4
        have b14 := b13.trans (b4.mono b13.size)
        clear b4 b13
        go_wp2_with fail
        refine (runeCountInString_any s _ (by omega)).mono ?_
        rintro e w5 ⟨rfl, b5⟩
        have hT5 := hT4.later b5
        have b15 := b14.trans (b5.mono b14.size)
        clear b5 b14
        go_wp2_with fail
        refine (awake_any _ hT5).mono ?_
        rintro e w6 ⟨rfl, b6⟩
        have b16 := b15.trans (b6.mono b15.size)
        go_wp2
        go_ret
        exact ⟨rfl, b16⟩
set_option maxRecDepth 100000 in
theorem go_lifted (os : Os) (started : os.Started) (H : Type) (enc : TypeId × Value → H) :
    ReturnsInHanded {} Tryd.checked os 7 .any (fun w args => (Rows.runesGoSpec.pre enc Tryd.prog Tryd.f7 [] false w args ∧ laidMetH Tryd.prog tabsLaid w) ∧ sizedMet enc Tryd.prog Tryd.f7 (OpenSpec.ofChange Rows.runesGoSpec) false w args)
      (Rows.runesGoSpec.post enc Tryd.prog Tryd.f7 false true false false) := by
  refine returnsInHanded_of_change_and (C := Tryd.checked) (X := fun w _ => laidMetH Tryd.prog tabsLaid w) (fun _ _ _ hh h => h.of_heap hh) own started (by kernel_rfl) Tryd.func7
    (ChangeSpec.witness_shaped (enc := enc) (C := Tryd.checked) (os := os) (X := fun w _ => laidMetH Tryd.prog tabsLaid w) false (World.laidAll Tryd.prog os tabsLaid) #[.string ⟨#[]⟩] 8 (World.laidAll_os _ _ _)
      (World.shaped_of_ZipB (by kernel_rfl) (by kernel_rfl)) (by kernel_rfl) (by kernel_rfl) (by kernel_rfl) (start_met os _)) ?_
  intro W base args ds gs before hval0 hW _ _ hL _
  have hval : ∀ (j : Nat) t v, Tryd.f7.params[j]? = some t → args[j]? = some v → Value.okWide Tryd.prog W .any base t v := hval0
  have hW' := hW
  obtain ⟨p, q, hA0, hV, rfl, _, _⟩ := hW
  have hA : DataW.TrodAll enc Tryd.prog W 0 (fun _ => true) true Tryd.f7.params.toList args.toList ds p := hA0
  rw [Tryd.params7] at hA hval
  obtain ⟨v0, d0, rfl, rfl, h0⟩ := trodAll_one hA
  obtain ⟨rfl, rfl⟩ := trodVars_none hV
  obtain ⟨x0, rfl, rfl, rfl, wx0⟩ := Go.ChangeMaps.open_string Tryd.underlying9 (hval 0 9 v0 rfl rfl) h0
  have b0 : x0.size ≤ 9223372036854775807 := by have := wx0; unfold maxLen at this; omega
  simp only [List.append_nil] at hW'
  refine (go_walk x0 W b0 (tabs_of_laid hL)).mono fun e W' ⟨he, hb⟩ => ?_
  subst he
  exact ⟨_, rfl, _, _, _, [], [], [], hW', trodAll_mk1 (shut_bool Tryd.underlying4 _), trodAll_mk1 (Go.ChangeMaps.shut_string Tryd.underlying9 wx0), rfl, hb.frame _, fun h => by cases h⟩

theorem go_holds : Rows.RunesGoSaid :=
  OpenClaim.holds_of_wide 7 Tryd.f7 rfl rfl rfl rfl rfl rfl rfl ⟨rfl, rfl, rfl, rfl, rfl⟩ rfl rfl rfl rfl rfl (by kernel_rfl) Tryd.func7 (by kernel_rfl)
    (of_decide_eq_true (by kernel_rfl)) (by unfold Func.isWrapper; first | (rw [if_pos (by decide +kernel)]; kernel_rfl) | (rw [if_neg (by decide +kernel)]; exact ⟨rfl, rfl⟩))
    (fun os started H enc _ => go_lifted os started H enc)

theorem go_card : Rows.RunesGoCardSaid :=
  Claim7.holds_tied_plain_at .later [] [.data, .pinned] true _ false
    go_holds (fun _ h => by cases h) (by kernel_rfl) (fun _ h => by cases h) runesGo_row_tie rfl ⟨rfl, rfl⟩ (by kernel_rfl) rfl
    (fun f fn hf hfn => by
      obtain rfl : f = 7 := Option.some.inj ((show Tryd.prog.funcNamed "palaver/palaverlaw01.RunesGo" = some 7 by kernel_rfl).symm.trans hf) |>.symm
      obtain rfl : fn = Tryd.f7 := (Option.some.inj (Tryd.func7.symm.trans hfn)).symm
      exact ⟨by kernel_rfl, fun j t ht => by
        rw [Tryd.params7] at ht
        have hm : t ∈ [9] := by simpa using Array.mem_of_getElem? ht
        have hall : ([9].all fun u => !Tryd.prog.wantsStandIn u) = true := by kernel_rfl
        exact (show Tryd.prog.wantsStandIn t = false by simpa using List.all_eq_true.1 hall t hm)⟩)
    (by kernel_rfl)
end Go.Proofs.YtocejllclpdnnaaDoor
