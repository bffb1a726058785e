/- The statement ValueShows: any value that may be is shown as the document's own Show has it, and read back as itself. Conditions: none but what the card ties (the library's variables hold what their texts lay). -/
import Derived.Test.YtfcigknalnmhcaaDoorVReadAny
import Derived.Test.YtfcigknalnmhcaaDoorVRefShow
import Derived.Test.YtfcigknalnmhcaaDoorVRefCheck
import Derived.Test.YtfcigknalnmhcaaDoorVFrame
import Derived.Test.YtfcigknalnmhcaaDoorVEq
import Derived.Test.YtfcigknalnmhcaaDoorVRound
namespace Go.Proofs.YtfcigknalnmhcaaDoor
open Go.ChangeShapes Go.WideShapes Go.ChangeAt Go.RowKit Go.Lib

/-- What is shown of a value that may be is read as that value. -/
theorem readEnd_shown {l : List UInt8} {K n : Int} {s : ByteArray} {v : Value} (h : Shown l K n s.data.toList) (hR : ReadEnd l v) : v = .tuple #[V3 K n s, .bool true] := by
  rcases hR with ⟨K', n', s', h', rfl⟩ | ⟨hn, _⟩
  · obtain ⟨rfl, rfl, h3⟩ := h.only K' n' _ h'
    rw [show s' = s from ByteArray.ext (Array.toList_inj.1 h3)]
  · exact absurd h (hn K n _)
theorem showL_small {K n : Int} {s : List UInt8} (h0 : -9223372036854775808 ≤ n) (h1 : n ≤ 9223372036854775807) (hs : s.length ≤ 400) : (showL K n s).length ≤ 1099511627776 := by
  have hi := itoa_length_le n h0 h1
  have hq : (quoteL s).length ≤ 2 + 6 * 400 := by
    have hm : ∀ l : List UInt8, (quoteM l).length ≤ 6 * l.length := by
      intro l
      induction l using pcs_induct with
      | h0 => exact Nat.zero_le _
      | h1 l hne ih =>
        rw [quoteM_step l hne, List.length_append]
        have h6 := quoteR_len (decodeL l).1
        have hw := decodeL_width l
        have hl : 0 < l.length := List.length_pos_iff.2 hne
        rw [List.length_drop] at ih
        omega
    have := hm s
    unfold quoteL
    rw [List.length_cons, List.length_append, List.length_singleton]; omega
  unfold showL
  split
  · omega
  split
  · split <;> decide
  split
  · omega
  split
  · rw [List.length_cons]; omega
  · decide
set_option maxHeartbeats 4000000 in
set_option maxRecDepth 100000 in
theorem valueshows_walk (K n : Int) (s : ByteArray) (w : World) (_ : -9223372036854775808 ≤ K) (_ : K ≤ 9223372036854775807) (n0 : -9223372036854775808 ≤ n) (n1 : n ≤ 9223372036854775807) (_ : s.size ≤ maxLen) (hE : Env7 w) :
    Calls Tryd.prog 6 #[V3 K n s] w fun e w' => e = .returned (.bool true) ∧ Below w.heap.size w w' := by
  have cA := fun w1 => refCheck_any K n s w1
  have hb0 := below_alloc w (.cells #[.int .i64 K, .int .i64 n, .string s] 23)
  have hE0 := hE.later hb0
  have v0 := three_new w (.int .i64 K) (.int .i64 n) (.string s) 23
  cases hZa : checkB K n s.data.toList with
  | false =>
    simp only [hZa] at cA
    clear hZa hE
    go_enter Tryd.func6, Tryd.ntmps6
    obtain ⟨-, a0, a1, a2, -, -, -⟩ := v0
    go_wp2_with fail
    refine (cA _).mono ?_
    rintro e w1 ⟨rfl, hb1⟩
    clear cA
    have hbw := below_to hb0 hb1
    have hA := awake_any w1 (hE0.later hb1).env
    go_wp2_with fail
    refine hA.mono ?_
    rintro e w2 ⟨rfl, hb2⟩
    go_wp2
    go_ret
    exact ⟨rfl, below_to hbw hb2⟩
  | true =>
    simp only [hZa] at cA
    have hsz := checked_size hZa
    have hsl : s.data.toList.length ≤ 400 := by rw [size_list]; exact hsz
    have hsh : Shown (showL K n s.data.toList) K n s.data.toList := ⟨hZa, rfl, n0, n1⟩
    have cS := fun w1 (h : Env w1) => show_any K n s w1 n0 n1 (by omega) h
    have cF := fun w1 => refshow_any K n s w1 n0 n1 hZa hsz
    have hTz : (⟨(showL K n s.data.toList).toArray⟩ : ByteArray).size ≤ 1099511627776 := by
      show (showL K n s.data.toList).toArray.size ≤ _
      rw [List.size_toArray]; exact showL_small n0 n1 hsl
    have hTl : (⟨(showL K n s.data.toList).toArray⟩ : ByteArray).data.toList = showL K n s.data.toList := by simp
    have cR : ∀ w1, Env7 w1 → Calls Tryd.prog 29 #[.string ⟨(showL K n s.data.toList).toArray⟩] w1 fun e w' => e = .returned (.tuple #[V3 K n s, .bool true]) ∧ Below w1.heap.size w1 w' := fun w1 h => (read_any _ w1 hTz h).mono fun e w' ⟨⟨v, he, hv⟩, hb⟩ => by
      rw [hTl] at hv
      exact ⟨by rw [he, readEnd_shown hsh hv], hb⟩
    have hqi := fun w => eqlIn_val K n s K n s w
    simp only [sameV_refl] at hqi
    generalize (⟨(showL K n s.data.toList).toArray⟩ : ByteArray) = T at cS cF cR
    clear hZa hE hTz hTl hsh
    go_enter Tryd.func6, Tryd.ntmps6
    have v0k := fun w1 h => v0.later (w' := w1) h
    obtain ⟨-, a0, a1, a2, -, -, -⟩ := v0
    go_wp2_with fail
    refine (cA _).mono ?_
    rintro e w1 ⟨rfl, hb1⟩
    have hE1 := hE0.later hb1
    have hbw1 := below_to hb0 hb1
    obtain ⟨-, q0, q1, q2, -, -, -⟩ := v0k _ hb1
    clear a0 a1 a2 hE0 cA
    go_wp2_with fail
    refine (cS _ hE1.env).mono ?_
    rintro e w2 ⟨rfl, hb2⟩
    have hE2 := hE1.later hb2
    have hbw2 := below_to hbw1 hb2
    have hb02 := below_to hb1 hb2
    clear q0 q1 q2 hE1 hbw1 hb1 hb2 cS
    go_wp2_with fail
    refine (cR _ hE2).mono ?_
    rintro e w3 ⟨rfl, hb3⟩
    have hE3 := hE2.later hb3
    have hbw3 := below_to hbw2 hb3
    have hb03 := below_to hb02 hb3
    have hb4 := below_alloc w3 (.cells #[.int .i64 K, .int .i64 n, .string s] 23)
    have hE4 := hE3.later hb4
    have hbw4 := below_to hbw3 hb4
    have x4 := three_new w3 (.int .i64 K) (.int .i64 n) (.string s) 23
    have x4k := fun w1 h => x4.later (w' := w1) h
    obtain ⟨-, p0, p1, p2, -, -, -⟩ := x4
    have v4 := (v0k _ hb03).later hb4
    have v4k := fun w1 h => v4.later (w' := w1) h
    obtain ⟨-, q0, q1, q2, -, -, -⟩ := v4
    clear hE2 hE3 hbw2 hbw3 hb02 hb03 hb3 hb4 cR v0k
    go_wp2_with fail
    refine (cF _).mono ?_
    rintro e w5 ⟨rfl, hb5⟩
    have hbw5 := below_to hbw4 hb5
    have hE5 := hE4.later hb5
    obtain ⟨-, y0, y1, y2, -, -, -⟩ := x4k _ hb5
    obtain ⟨-, z0, z1, z2, -, -, -⟩ := v4k _ hb5
    clear q0 q1 q2 p0 p1 p2 x4k v4k hb5 hE4 hbw4 cF
    go_wp2_with fail
    refine (awake_any _ hE5.env).mono ?_
    rintro e w6 ⟨rfl, hb6⟩
    go_wp2
    go_ret
    exact ⟨rfl, below_to hbw5 hb6⟩
set_option maxRecDepth 1000000 in
theorem valueshows_lifted (os : Os) (started : os.Started) (H : Type) (enc : TypeId × Value → H) :
    ReturnsInHanded {} Tryd.checked os 6 .any (fun w args => (Rows.valueShowsSpec.pre enc Tryd.prog Tryd.f6 [] false w args ∧ laidMetH Tryd.prog tabsLaid7 w) ∧ sizedMet enc Tryd.prog Tryd.f6 (OpenSpec.ofChange Rows.valueShowsSpec) false w args)
      (Rows.valueShowsSpec.post enc Tryd.prog Tryd.f6 false true false false) := by
  refine returnsInHanded_of_change_and (C := Tryd.checked) (X := fun w _ => laidMetH Tryd.prog tabsLaid7 w) (fun _ _ _ hh h => h.of_heap hh) own started (by kernel_rfl) Tryd.func6
    (ChangeSpec.witness_shaped (enc := enc) (C := Tryd.checked) (os := os) (X := fun w _ => laidMetH Tryd.prog tabsLaid7 w) false (World.laidAll Tryd.prog os tabsLaid7) #[.agg #[.int .i64 0, .int .i64 0, .string ⟨#[]⟩]] 8 (World.laidAll_os _ _ _)
      (World.shaped_of_ZipB (by kernel_rfl) (by kernel_rfl)) (by kernel_rfl) (by kernel_rfl) (by kernel_rfl) (start_met7 os _)) ?_
  intro W base args ds gs before hval0 hW _ hsz0 hL _
  have hsz := hsz0
  have hval : ∀ (j : Nat) t v, Tryd.f6.params[j]? = some t → args[j]? = some v → Value.okWide Tryd.prog W .any base t v := hval0
  have hW' := hW
  obtain ⟨p, q, hA0, hV, rfl, _, _⟩ := hW
  have hA : DataW.TrodAll enc Tryd.prog W 0 (fun _ => true) true Tryd.f6.params.toList args.toList ds p := hA0
  rw [Tryd.params6] at hA hval
  obtain ⟨v0, d0, rfl, rfl, h0⟩ := trodAll_one hA
  obtain ⟨rfl, rfl⟩ := trodVars_none hV
  obtain ⟨K0, n0, s0, rfl, rfl, T0, a0, b0, e0, f0, z0, rfl⟩ := open_val (hval 0 23 v0 rfl rfl) h0
  simp only [List.append_nil] at hW'
  refine (valueshows_walk K0 n0 s0 W a0 b0 e0 f0 z0 (env7_of_laid hL)).mono fun e W' ⟨he, hb⟩ => ?_
  subst he
  exact ⟨_, rfl, _, _, _, [], _, [], hW', trodAll_mk1 (shut_bool Tryd.underlying4 _), trodAll_mk1 (T0 _ _), rfl, hb.frame _, fun h => by cases h⟩

theorem valueshows_holds : Rows.ValueShowsSaid :=
  OpenClaim.holds_of_wide 6 Tryd.f6 rfl rfl rfl rfl rfl rfl rfl ⟨rfl, rfl, rfl, rfl, rfl⟩ rfl rfl rfl rfl rfl (by kernel_rfl) Tryd.func6 (by kernel_rfl)
    (of_decide_eq_true (by kernel_rfl)) (by unfold Func.isWrapper; first | (rw [if_pos (by decide +kernel)]; kernel_rfl) | (rw [if_neg (by decide +kernel)]; exact ⟨rfl, rfl⟩))
    (fun os started H enc _ => valueshows_lifted os started H enc)

theorem valueshows_card : Rows.ValueShowsCardSaid :=
  Claim7.holds_tied_plain_at .later [] [.data, .data, .data, .data, .sentinel, .sentinel, .pinned] true _ true
    valueshows_holds (fun _ h => by cases h) (by kernel_rfl) (fun _ h => by cases h) valueShows_row_tie rfl ⟨rfl, rfl⟩ (by kernel_rfl) rfl
    (fun f fn hf hfn => by
      obtain rfl : f = 6 := Option.some.inj ((show Tryd.prog.funcNamed "palaver/palaverlaw05.ValueShows" = some 6 by kernel_rfl).symm.trans hf) |>.symm
      obtain rfl : fn = Tryd.f6 := (Option.some.inj (Tryd.func6.symm.trans hfn)).symm
      exact ⟨by kernel_rfl, fun j t ht => by
        rw [Tryd.params6] at ht
        have hm : t ∈ [23] := by simpa using Array.mem_of_getElem? ht
        have hall : ([23].all fun u => !Tryd.prog.wantsStandIn u) = true := by kernel_rfl
        exact (show Tryd.prog.wantsStandIn t = false by simpa using List.all_eq_true.1 hall t hm)⟩)
    (by kernel_rfl)
end Go.Proofs.YtfcigknalnmhcaaDoor
