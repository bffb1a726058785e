/- The statement WireBack: what is read of any bytes, a number or a text, is put as just these. Conditions: none. -/
import Derived.Test.YtamejodgilnchaaWireAwake
import Derived.StillTailTactics
namespace Go.Proofs.Ytamejodgilnchaa
open Go.ChangeShapes Go.WideShapes Go.ChangeAt Go.RowKit

/-- What was read, and what it means: a number. -/
theorem back_int (L : List UInt8) : (∃ v R, stI (L, false) = (v, (R, false)) ∧ L = putI v ++ R ∧ -9223372036854775808 ≤ v ∧ v ≤ 9223372036854775807) ∨ stI (L, false) = (0, ([], true)) := by
  cases e : rdU 0 0 L with
  | none => exact .inr (stI_none (s := (L, false)) e)
  | some p =>
    obtain ⟨u, R⟩ := p
    have hs := stI_some (s := (L, false)) e
    have hb := stI_back (L := L) (f := false) (by rw [hs])
    rw [hs] at hb
    exact .inl ⟨_, _, hs, hb.1, hb.2.1, hb.2.2⟩
theorem back_text (L : List UInt8) (hl : L.length ≤ 140737488351232) (most : Int) : (∃ s R, stT most (L, false) = (s, (R, false)) ∧ L = putT s ++ R ∧ s.length ≤ 140737488351232) ∨ stT most (L, false) = ([], ([], true)) := by
  unfold stT
  by_cases hok : 0 ≤ (stI (L, false)).1 ∧ (stI (L, false)).1 ≤ most ∧ (stI (L, false)).1 ≤ ((stI (L, false)).2.1.length : Int)
  · rw [stC_yes hok]
    rcases back_int L with ⟨v, R, hs, hL, _, _⟩ | hs
    · rw [hs] at hok ⊢
      simp only at hok
      have hn : ((R.take v.toNat).length : Int) = v := by rw [List.length_take]; omega
      have hlen : L.length = (putI v).length + R.length := by rw [hL, List.length_append]
      refine .inl ⟨R.take v.toNat, R.drop v.toNat, rfl, ?_, by rw [List.length_take]; omega⟩
      unfold putT
      rw [hn, List.append_assoc, List.take_append_drop, hL]
    · rw [hs]
      exact .inr rfl
  · rw [stC_no hok]
    exact .inr rfl

set_option maxHeartbeats 1000000 in
theorem wireback_walk (A : Option Addr) (L : List UInt8) (cap : Nat) (w : World) (hlc : L.length ≤ cap) (hcm : cap ≤ 140737488351232) (hB : Bs w A L) (hcap : A = none → cap = 0) :
    Calls Try.prog 6 #[.slice A L.length cap] w fun e w' => e = .returned (.bool true) ∧ Below w.heap.size w w' := by
  have hl : L.length ≤ 140737488351232 := by omega
  have cby := bytes_any A L cap w hl hB hcap
  have hint := back_int L
  have htxt := back_text L hl (L.length : Int)
  go_enter Try.func6, Try.ntmps6
  go_wp2_with fail
  refine cby.mono ?_
  rintro e w1 ⟨A1, cap1, rfl, hB1, hn1, _, hq1⟩
  have cn := new_any A1 L cap1 w1 (by omega) hB1 hn1
  clear cby hB1 hn1
  go_wp2_with fail
  refine cn.mono ?_
  rintro e w2 ⟨g1, rfl, hR1, hq2⟩
  have hg1 : w.heap.size ≤ g1 := Nat.le_trans hq1.size hR1.1
  have HQ2 := Lib.hid (hq1.trans (hq2.mono hq1.size))
  have ci := int_any _ g1 _ w2 hR1
  clear cn hq1 hq2 hR1
  go_wp2_with fail
  rcases hint with ⟨v, R, hs, hL, hv0, hv1⟩ | hs
  rw [hs] at ci
  clear hs
  refine ci.mono ?_
  rintro e w3 ⟨rfl, hR3, hO⟩
  have HQ3 := Lib.hid (HQ2.out.trans (hO.below hg1))
  have HR3 := Lib.hid hR3
  have co := ok_any _ g1 _ w3 hR3
  have cp := put_nil v w3 hv0 hv1
  have hBX : Bs w A (putI v) := by have := bs_take hB (putI v).length; rwa [hL, List.take_left] at this
  have hlen : (R.length : Int) = (L.length : Int) - ((putI v).length : Int) := by rw [hL, List.length_append]; omega
  have hle : (putI v).length ≤ L.length := by rw [hL, List.length_append]; omega
  have HBX := Lib.hid hBX
  have HLEN := Lib.hid hlen
  clear ci hR3 hO HQ2 hL hBX hlen
  generalize putI v = X at *
  go_wp2_with fail
  refine co.mono ?_
  rintro e w' ⟨rfl, rfl⟩
  clear co
  go_wp2_with fail
  refine cp.mono ?_
  rintro e w4 ⟨A2, cap2, rfl, hB4, _, _, hq4⟩
  have HQ4 := Lib.hid (HQ3.out.trans (hq4.mono HQ3.out.size))
  have cl := flip_w (left_any _ g1 _ w4.drew (HR3.out.below hq4 (Nat.le_refl _)).drew)
  have k1 := run_str_of (P := Try.prog) (w := w4.drew) 22 9 5 cap Try.underlying22 Try.underlying5 Try.underlying9 (HBX.out.below HQ4.out).drew
  have k2 := run_str_of (P := Try.prog) (w := w4.drew) 22 9 5 cap2 Try.underlying22 Try.underlying5 Try.underlying9 hB4.drew
  have hlen := HLEN.out
  have hxc : X.length ≤ cap := by omega
  have hdl : decide (L.length < X.length) = false := by simp; omega
  have hw1 : IntKind.i64.wrap ((L.length : Int) - (X.length : Int)) = (L.length : Int) - (X.length : Int) := IntWalk.i64_in _ (by omega)
  clear cp hB4 hq4 HQ3 HR3 HBX
  go_wp2_with fail
  refine wp_region_still_tail 24 (by kernel_rfl) (by kernel_rfl) ?_
  simp only [List.take_succ_cons, List.take_zero, List.drop_succ_cons, List.drop_zero]
  repeat still_step
  still_call cl
  repeat still_step
  refine wpStill_nil ?_
  change wpList _ _ _ _ _ w4.drew
  clear cl k1 k2
  have HQm := Lib.hid HQ4.out.drew
  clear HQ4 HLEN hlen hle hxc hdl hw1
  generalize w4.drew = wm at *
  go_wp2_with fail
  rotate_left
  rw [hs] at ci
  clear hs
  refine ci.mono ?_
  rintro e w3 ⟨rfl, hR3, hO⟩
  have HQ3 := Lib.hid (HQ2.out.trans (hO.below hg1))
  have co := ok_any _ g1 _ w3 hR3
  clear ci hR3 hO HQ2
  go_wp2_with fail
  refine co.mono ?_
  rintro e w' ⟨rfl, rfl⟩
  clear co
  obtain ⟨wm, rfl⟩ : ∃ wm, wm = w3 := ⟨_, rfl⟩
  have HQm := HQ3
  clear HQ3
  go_wp2_with fail
  all_goals
    have hBm := hB.below HQm.out
    have cby := bytes_any A L cap wm hl hBm hcap
    refine cby.mono ?_
    rintro e w5 ⟨A3, cap3, rfl, hB5, hn5, _, hq5⟩
    have cn := new_any A3 L cap3 w5 (by omega) hB5 hn5
    have HQ5 := Lib.hid (HQm.out.trans (hq5.mono HQm.out.size))
    clear cby hB5 hn5 hBm hq5 HQm
    go_wp2_with fail
    refine cn.mono ?_
    rintro e w6 ⟨g2, rfl, hR6, hq6⟩
    have hg2 : w.heap.size ≤ g2 := Nat.le_trans HQ5.out.size hR6.1
    have HQ6 := Lib.hid (HQ5.out.trans (hq6.mono HQ5.out.size))
    have ct := text_any _ g2 _ (L.length : Int) w6 hR6
    clear cn hq6 hR6 HQ5
    go_wp2_with fail
    rcases htxt with ⟨s, R, hs, hL, hsl⟩ | hs
    · rw [hs] at ct
      clear hs
      refine ct.mono ?_
      rintro e w7 ⟨rfl, hR7, hO⟩
      have HQ7 := Lib.hid (HQ6.out.trans (hO.below hg2))
      have HR7 := Lib.hid hR7
      have co := ok_any _ g2 _ w7 hR7
      have cp := text_nil ⟨s.toArray⟩ w7 (by rw [show (⟨s.toArray⟩ : ByteArray).size = s.length by simp [ByteArray.size]]; exact hsl)
      rw [show (⟨s.toArray⟩ : ByteArray).data.toList = s by simp] at cp
      have hBX : Bs w A (putT s) := by have := bs_take hB (putT s).length; rwa [hL, List.take_left] at this
      have hlen : (R.length : Int) = (L.length : Int) - ((putT s).length : Int) := by rw [hL, List.length_append]; omega
      have hle : (putT s).length ≤ L.length := by rw [hL, List.length_append]; omega
      have HBX := Lib.hid hBX
      have HLEN := Lib.hid hlen
      clear ct hR7 hO HQ6 hL hBX hlen
      generalize putT s = X at *
      generalize (⟨s.toArray⟩ : ByteArray) = txt at *
      go_wp2_with fail
      refine co.mono ?_
      rintro e w' ⟨rfl, rfl⟩
      clear co
      go_wp2_with fail
      refine cp.mono ?_
      rintro e w8 ⟨A4, cap4, rfl, hB8, _, _, hq8⟩
      have HQ8 := Lib.hid (HQ7.out.trans (hq8.mono HQ7.out.size))
      have cl := flip_w (left_any _ g2 _ w8.drew (HR7.out.below hq8 (Nat.le_refl _)).drew)
      have k1 := run_str_of (P := Try.prog) (w := w8.drew) 22 9 5 cap Try.underlying22 Try.underlying5 Try.underlying9 (HBX.out.below HQ8.out).drew
      have k2 := run_str_of (P := Try.prog) (w := w8.drew) 22 9 5 cap4 Try.underlying22 Try.underlying5 Try.underlying9 hB8.drew
      have haw := awake_any w8.drew
      have hlen := HLEN.out
      have hxc : X.length ≤ cap := by omega
      have hdl : decide (X.length ≤ L.length) = true := by simp; omega
      have hw1 : IntKind.i64.wrap ((L.length : Int) - (X.length : Int)) = (L.length : Int) - (X.length : Int) := IntWalk.i64_in _ (by omega)
      clear cp hB8 hq8 HQ7 HR7 HBX
      go_wp2_with fail
      refine wp_region_still_tail 26 (by kernel_rfl) (by kernel_rfl) ?_
      simp only [List.take_succ_cons, List.take_zero, List.drop_succ_cons, List.drop_zero]
      repeat still_step
      still_call cl
      repeat still_step
      refine wpStill_nil ?_
      change wpList _ _ _ _ _ w8.drew
      clear cl k1 k2
      go_wp2_with fail
      refine haw.mono ?_
      rintro e w9 ⟨rfl, hq⟩
      go_wp2
      go_ret
      exact ⟨rfl, HQ8.out.drew.trans (hq.mono HQ8.out.size)⟩
    · rw [hs] at ct
      clear hs
      refine ct.mono ?_
      rintro e w7 ⟨rfl, hR7, hO⟩
      have HQ7 := Lib.hid (HQ6.out.trans (hO.below hg2))
      have co := ok_any _ g2 _ w7 hR7
      have haw := awake_any w7
      clear ct hR7 hO HQ6
      go_wp2_with fail
      refine co.mono ?_
      rintro e w' ⟨rfl, rfl⟩
      clear co
      go_wp2_with fail
      refine haw.mono ?_
      rintro e w9 ⟨rfl, hq⟩
      go_wp2
      go_ret
      exact ⟨rfl, HQ7.out.trans (hq.mono HQ7.out.size)⟩
set_option maxRecDepth 100000 in
theorem wireback_lifted (os : Os) (started : os.Started) (H : Type) (enc : TypeId × Value → H) :
    ReturnsInHanded {} Try.checked os 6 .any (Rows.wireBackSpec.pre6 enc Try.prog Try.f6 Rows.wireBackRow.domain false) (Rows.wireBackSpec.post enc Try.prog Try.f6 false true false false) := by
  refine returnsInHanded_of_change_sized (C := Try.checked) own started (by kernel_rfl) Try.func6
    (ChangeSpec.witness6 (enc := enc) (C := Try.checked) false ⟨#[], #[.slice none 0 0], []⟩ 8 (by kernel_rfl) (by kernel_rfl) (by kernel_rfl) (by kernel_rfl)) ?_
  intro W base args ds gs before hval0 hW _ hsz0 _
  have hsz : (DataW.weightsEach Try.prog (Try.f6.params.toList ++ Rows.wireBackSpec.plain.varTypes Try.prog) (ds ++ gs)).all (· ≤ reachBytes) = true := hsz0
  have hval : ∀ (j : Nat) t v, Try.f6.params[j]? = some t → args[j]? = some v → Value.okWide Try.prog W .any base t v := hval0
  have hW' := hW
  obtain ⟨p, q, hA0, hV, rfl, _, _⟩ := hW
  have hA : DataW.TrodAll enc Try.prog W 0 (fun _ => true) true Try.f6.params.toList args.toList ds p := hA0
  rw [Try.params6] at hA hval hsz
  obtain ⟨v0, d0, rfl, rfl, h0⟩ := trodAll_one hA
  obtain ⟨rfl, rfl⟩ := trodVars_none hV
  simp only [List.append_nil] at hW'
  have hlt0 : ∀ x ∈ p, x.block < W.heap.size := fun x hx => hW'.lt x (by simp [hx])
  have h0k := h0
  obtain ⟨A0, L0, c0, rfl, lc0, cm0, B0, N0⟩ := open_bytes Try.underlying22 Try.underlying5 (by kernel_rfl) (hval 0 22 v0 rfl rfl) h0 (fun elems spare e => by
    subst e
    have := sized_slice hsz (j := 0) (t := 22) (e := 5) rfl rfl Try.underlying22
    rwa [show Try.prog.bytesOf 5 = 1 by kernel_rfl] at this)
  refine (wireback_walk A0 L0 c0 W lc0 cm0 B0 N0).mono fun e W' ⟨he, hb⟩ => ?_
  subst he
  exact ⟨_, rfl, _, _, _, [], _, [], hW', trodAll_mk1 (shut_bool Try.underlying4 _), trodAll_mk1 (Below.trod laidOut (by kernel_rfl) (of_decide_eq_true (by kernel_rfl)) h0k hb hlt0), rfl, hb.frame _, fun h => by cases h⟩

theorem wireback_holds : Rows.WireBackSaid :=
  OpenClaim.holds_of_wide 6 Try.f6 rfl rfl rfl rfl rfl rfl rfl ⟨rfl, rfl, rfl, rfl, rfl⟩ rfl rfl rfl rfl rfl (by kernel_rfl) Try.func6 (by kernel_rfl)
    (of_decide_eq_true (by kernel_rfl)) (by unfold Func.isWrapper; first | (rw [if_pos (by decide +kernel)]; kernel_rfl) | (rw [if_neg (by decide +kernel)]; exact ⟨rfl, rfl⟩))
    (fun os started H enc _ => wireback_lifted os started H enc)
end Go.Proofs.Ytamejodgilnchaa
