/- The statement ValueNumbers: any number is shown by its digits, read back as itself, and is not read with a nought ahead. Conditions: none but what the card ties (the library's variables hold what their texts lay). -/
import Derived.Test.YtfcigknalnmhcaaDoorVReadP
import Derived.Test.YtfcigknalnmhcaaDoorVDigit
import Derived.Test.YtfcigknalnmhcaaDoorHeldList
namespace Go.Proofs.YtfcigknalnmhcaaDoor
open Go.ChangeShapes Go.WideShapes Go.ChangeAt Go.RowKit Go.Lib

theorem min_shown : itoa (-9223372036854775808) = [45, 57, 50, 50, 51, 51, 55, 50, 48, 51, 54, 56, 53, 52, 55, 55, 53, 56, 48, 56] := by
  unfold itoa
  rw [if_pos (by decide), show (-9223372036854775808 : Int).natAbs = 9223372036854775808 by decide]
  simp [decDigits_big, decDigits_one]
theorem byte_at {T : ByteArray} {l : List UInt8} {j : Nat} {c : UInt8} (h : T.data.toList = l) (hc : l[j]? = some c) : ∃ h0 : j < T.size, T[j]'h0 = c := by
  have e : T.data.toList[j]? = some c := by rw [h]; exact hc
  rw [Array.getElem?_toList] at e
  obtain ⟨h0, e⟩ := Array.getElem?_eq_some_iff.1 e
  exact ⟨h0, e⟩
set_option maxHeartbeats 4000000 in
set_option maxRecDepth 100000 in
theorem valuenumbers_walk (n : Int) (w : World) (n0 : -9223372036854775808 ≤ n) (n1 : n ≤ 9223372036854775807) (hE : Env7 w) :
    Calls Tryd.prog 9 #[.int .i64 n] w fun e w' => e = .returned (.bool true) ∧ Below w.heap.size w w' := by
  have hb0 := below_alloc w (.cells #[.int .i64 1, .int .i64 n, .string ⟨#[]⟩] 23)
  have hE0 := hE.later hb0
  have v0 := three_new w (.int .i64 1) (.int .i64 n) (.string ⟨#[]⟩) 23
  have cS : ∀ w1, Env w1 → Calls Tryd.prog 28 #[V3 1 n ⟨#[]⟩] w1 fun e w' => e = .returned (.string ⟨(itoa n).toArray⟩) ∧ Below w1.heap.size w1 w' := fun w1 h => show_any 1 n ⟨#[]⟩ w1 n0 n1 (by decide) h
  have cR := fun w h => read_number n n0 n1 w h
  have cL := fun w h => read_long n n0 n1 w h
  have hd : (⟨(itoa n).toArray⟩ : ByteArray).data.toList = itoa n := by simp
  have hlz : (⟨(itoa n).toArray⟩ : ByteArray).size = lenN n + (if n < 0 then 1 else 0) := by rw [← itoa_len n]; show (itoa n).toArray.size = _; rw [List.size_toArray]
  have h48 : (⟨#[48]⟩ : ByteArray) ++ ⟨(itoa n).toArray⟩ = ⟨(48 :: itoa n).toArray⟩ := by apply ByteArray.ext; simp
  have hlen := lenN_pos n
  have hl21 := itoa_length_le n n0 n1
  rw [itoa_len] at hl21
  have hqi := fun w => eqlIn_val 1 n ⟨#[]⟩ 1 n ⟨#[]⟩ w
  simp only [sameV_refl] at hqi
  generalize (⟨(itoa n).toArray⟩ : ByteArray) = T at cS cR hd hlz h48
  have hneg : (n < 0 ∧ T.size = lenN n + 1 ∧ ∃ h0 : 0 < T.size, ∃ c : UInt8, T[0]'h0 = c ∧ ((c.toNat : Int) == 45) = true ∧ ((c.toNat : Int) != 45) = false) ∨ (¬ n < 0 ∧ T.size = lenN n ∧ ∃ h0 : 0 < T.size, ∃ c : UInt8, T[0]'h0 = c ∧ ((c.toNat : Int) == 45) = false ∧ ((c.toNat : Int) != 45) = true) := by
    by_cases hn : n < 0
    · rw [if_pos hn] at hlz
      obtain ⟨h0, h1⟩ := byte_at hd (itoa_neg0 n hn)
      exact .inl ⟨hn, hlz, h0, _, h1, rfl, rfl⟩
    · rw [if_neg hn] at hlz
      have h := itoa_at n (lenN n - 1) (by omega)
      rw [itoa_len, if_neg hn, show lenN n + 0 - 1 - (lenN n - 1) = 0 by omega] at h
      obtain ⟨h0, h1⟩ := byte_at hd h
      have hdg : digN n (lenN n - 1) < 10 := Nat.mod_lt _ (by omega)
      have h2 : (((UInt8.ofNat (48 + digN n (lenN n - 1))).toNat : Int) == 45) = false := by rw [u8_nat _ (by omega), beq_eq_false_iff_ne]; omega
      exact .inr ⟨hn, hlz, h0, _, h1, h2, by rw [bne, h2]; rfl⟩
  have HD := Lib.hid hd
  have H48 := Lib.hid h48
  clear hlz hd h48 hE
  rcases hneg with ⟨hn, hsz, hT0, c, hTc, hc45, hcn⟩ | ⟨hn, hsz, hT0, c, hTc, hc45, hcn⟩
  all_goals
    have hTz : (0 : Int) < (T.size : Int) := by omega
    have hTn : ((T.size : Int) == 0) = false := beq_eq_false_iff_ne.2 (by omega)
    have hnd : decide (n < 0) = _ := (by first | exact decide_eq_true hn | exact decide_eq_false hn)
    have HSZ := Lib.hid hsz
    have HN := Lib.hid hn
    have HLEN := Lib.hid (And.intro hlen hl21)
    have hTb : T.size ≤ 23 := by split at hl21 <;> omega
    clear hsz hn hlen hl21
    go_enter Tryd.func9, Tryd.ntmps9
    have v0k := fun w1 h => v0.later (w' := w1) h
    obtain ⟨-, a0, a1, a2, -, -, -⟩ := v0
    go_wp2_with fail
    refine (cS _ hE0.env).mono ?_
    rintro e w1 ⟨rfl, hb1⟩
    have hE1 := hE0.later hb1
    have hbw1 := below_to hb0 hb1
    go_wp2_with fail
    refine (cR _ hE1).mono ?_
    rintro e w2 ⟨rfl, hb2⟩
    have hE2 := hE1.later hb2
    have hbw2 := below_to hbw1 hb2
    obtain ⟨hv2, q0, q1, q2, -, -, -⟩ := v0k _ (below_to hb1 hb2)
    have hbw3 := hbw2.alloc hbw2.size (.cells #[.int .i64 1, .int .i64 n, .string ⟨#[]⟩] 23)
    have hE3 := hE2.later (below_alloc w2 (.cells #[.int .i64 1, .int .i64 n, .string ⟨#[]⟩] 23))
    clear a0 a1 a2 hb1 hb2 hE1 hE2 hbw1 hE0 v0k cR
    have HE3 := Lib.hid hE3
    have HB3 := Lib.hid hbw3
    clear hE3 hbw3
    go_wp2_with fail
    go_loop [7, 8] (fun mv iv => ∃ k : Nat, k ≤ lenN n ∧ mv = .int .i64 (leftN n k) ∧ iv = .int .i64 ((T.size : Int) - 1 - (k : Int))) (fun _ iv => ((Go.RowKit.intOf iv) + 1).toNat)
    case atStart => exact ⟨0, Nat.zero_le _, by rw [leftN_zero], by simp⟩
    case round =>
      obtain ⟨k, hk, rfl, rfl⟩ := hrel
      have hsz := HSZ.out
      by_cases hlt : k < lenN n
      · have hat := itoa_at n k hlt
        obtain ⟨j, hj⟩ : ∃ j : Nat, (T.size : Int) - 1 - (k : Int) = (j : Int) := ⟨(T.size - 1 - k), by omega⟩
        have hjl : (itoa n).length - 1 - k = j := by
          rw [itoa_len]
          first
          | (rw [if_pos HN.out]; omega)
          | (rw [if_neg (by have := HN.out; omega)]; omega)
        rw [hjl] at hat
        obtain ⟨hj0, hjc⟩ := byte_at HD.out hat
        have hdg : digN n k < 10 := Nat.mod_lt _ (by omega)
        have hu8 : (UInt8.ofNat (48 + digN n k)).toNat = 48 + digN n k := u8_nat _ (by omega)
        obtain ⟨x, hx⟩ : ∃ x, UInt8.ofNat (48 + digN n k) = x := ⟨_, rfl⟩
        rw [hx] at hjc hu8
        have hx45 : ((x.toNat : Int) == 45) = false := beq_eq_false_iff_ne.2 (by omega)
        have hmod := leftN_mod n k
        have hdiv := leftN_div n k
        have hle := leftN_le n (k + 1) n0 n1
        have hjz : (0 : Int) ≤ (j : Int) := by omega
        have hjlt : (j : Int) < (T.size : Int) := by omega
        have HJ := Lib.hid hj
        simp only [hj]
        clear hat hx hsz hj
        generalize leftN n k = M at *
        go_wp2_with fail
        all_goals exact ⟨⟨k + 1, by omega, rfl, by have := HJ.out; congr 1; omega⟩, by simp only [Go.RowKit.intOf]; omega⟩
      · obtain rfl : k = lenN n := by omega
        rw [leftN_end]
        have hE3 := HE3.out
        have hend : ((T.size : Int) - 1 - (lenN n : Int) = 0) ∨ ((T.size : Int) - 1 - (lenN n : Int) = -1) := by
          first
          | (left; omega)
          | (right; omega)
        have h48 := H48.out
        have hin : ¬ 9223372036854775807 < (⟨#[48]⟩ : ByteArray).size + T.size := by
          have : (⟨#[48]⟩ : ByteArray).size = 1 := rfl
          omega
        clear hsz hk hlt
        rcases hend with hend | hend
        all_goals
          first
          | (exfalso; have := HSZ.out; have := HN.out; omega)
          | (simp only [hend]; clear hend)
        all_goals
          go_wp2_with fail
          refine (cL _ hE3).mono ?_
          rintro e w4 ⟨rfl, hb4⟩
          have hbw4 := below_to HB3.out hb4
          have hE4 := hE3.later hb4
          clear hE3 hin h48
          have hE5 := hE4.later (below_alloc w4 (.cells #[.int .i64 0, .int .i64 0, .string ⟨#[]⟩] 23))
          have hbw5 := hbw4.alloc hbw4.size (.cells #[.int .i64 0, .int .i64 0, .string ⟨#[]⟩] 23)
          have cM : ∀ w, Env w → Calls Tryd.prog 28 #[V3 1 (-9223372036854775808) ⟨#[]⟩] w fun e w' => e = .returned (.string ⟨#[45, 57, 50, 50, 51, 51, 55, 50, 48, 51, 54, 56, 53, 52, 55, 55, 53, 56, 48, 56]⟩) ∧ Below w.heap.size w w' := fun w h => by
            have c := show_any 1 (-9223372036854775808) ⟨#[]⟩ w (by decide) (by decide) (by decide) h
            rw [show_1, min_shown] at c
            exact c
          go_wp2_with fail
          refine (cM _ hE5.env).mono ?_
          rintro e w6 ⟨rfl, hb6⟩
          have hE6 := hE5.later hb6
          have hbw6 := below_to hbw5 hb6
          clear hE4 hE5 cM hb4 hb6
          go_wp2_with fail
          refine (awake_any _ hE6.env).mono ?_
          rintro e w7 ⟨rfl, hb7⟩
          go_wp2
          go_ret
          exact ⟨rfl, below_to hbw6 hb7⟩
set_option maxRecDepth 1000000 in
theorem valuenumbers_lifted (os : Os) (started : os.Started) (H : Type) (enc : TypeId × Value → H) :
    ReturnsInHanded {} Tryd.checked os 9 .any (fun w args => (Rows.valueNumbersSpec.pre enc Tryd.prog Tryd.f9 [] false w args ∧ laidMetH Tryd.prog tabsLaid7 w) ∧ sizedMet enc Tryd.prog Tryd.f9 (OpenSpec.ofChange Rows.valueNumbersSpec) false w args)
      (Rows.valueNumbersSpec.post enc Tryd.prog Tryd.f9 false true false false) := by
  refine returnsInHanded_of_change_and (C := Tryd.checked) (X := fun w _ => laidMetH Tryd.prog tabsLaid7 w) (fun _ _ _ hh h => h.of_heap hh) own started (by kernel_rfl) Tryd.func9
    (ChangeSpec.witness_shaped (enc := enc) (C := Tryd.checked) (os := os) (X := fun w _ => laidMetH Tryd.prog tabsLaid7 w) false (World.laidAll Tryd.prog os tabsLaid7) #[.int .i64 0] 8 (World.laidAll_os _ _ _)
      (World.shaped_of_ZipB (by kernel_rfl) (by kernel_rfl)) (by kernel_rfl) (by kernel_rfl) (by kernel_rfl) (start_met7 os _)) ?_
  intro W base args ds gs before hval0 hW _ hsz0 hL _
  have hsz := hsz0
  have hval : ∀ (j : Nat) t v, Tryd.f9.params[j]? = some t → args[j]? = some v → Value.okWide Tryd.prog W .any base t v := hval0
  have hW' := hW
  obtain ⟨p, q, hA0, hV, rfl, _, _⟩ := hW
  have hA : DataW.TrodAll enc Tryd.prog W 0 (fun _ => true) true Tryd.f9.params.toList args.toList ds p := hA0
  rw [Tryd.params9] at hA hval
  obtain ⟨v0, d0, rfl, rfl, h0⟩ := trodAll_one hA
  obtain ⟨rfl, rfl⟩ := trodVars_none hV
  obtain ⟨x0, rfl, rfl, rfl, wx0⟩ := open_int Tryd.underlying2 (hval 0 2 v0 rfl rfl) h0
  simp only [List.append_nil] at hW'
  refine (valuenumbers_walk x0 W (bounds_i64 wx0).1 (bounds_i64 wx0).2 (env7_of_laid hL)).mono fun e W' ⟨he, hb⟩ => ?_
  subst he
  exact ⟨_, rfl, _, _, _, [], _, [], hW', trodAll_mk1 (shut_bool Tryd.underlying4 _), trodAll_mk1 (shut_int Tryd.underlying2 wx0), rfl, hb.frame _, fun h => by cases h⟩

theorem valuenumbers_holds : Rows.ValueNumbersSaid :=
  OpenClaim.holds_of_wide 9 Tryd.f9 rfl rfl rfl rfl rfl rfl rfl ⟨rfl, rfl, rfl, rfl, rfl⟩ rfl rfl rfl rfl rfl (by kernel_rfl) Tryd.func9 (by kernel_rfl)
    (of_decide_eq_true (by kernel_rfl)) (by unfold Func.isWrapper; first | (rw [if_pos (by decide +kernel)]; kernel_rfl) | (rw [if_neg (by decide +kernel)]; exact ⟨rfl, rfl⟩))
    (fun os started H enc _ => valuenumbers_lifted os started H enc)

theorem valuenumbers_card : Rows.ValueNumbersCardSaid :=
  Claim7.holds_tied_plain_at .later [] [.data, .data, .data, .data, .sentinel, .sentinel, .pinned] true _ true
    valuenumbers_holds (fun _ h => by cases h) (by kernel_rfl) (fun _ h => by cases h) valueNumbers_row_tie rfl ⟨rfl, rfl⟩ (by kernel_rfl) rfl
    (fun f fn hf hfn => by
      obtain rfl : f = 9 := Option.some.inj ((show Tryd.prog.funcNamed "palaver/palaverlaw05.ValueNumbers" = some 9 by kernel_rfl).symm.trans hf) |>.symm
      obtain rfl : fn = Tryd.f9 := (Option.some.inj (Tryd.func9.symm.trans hfn)).symm
      exact ⟨by kernel_rfl, fun j t ht => by
        rw [Tryd.params9] at ht
        have hm : t ∈ [2] := by simpa using Array.mem_of_getElem? ht
        have hall : ([2].all fun u => !Tryd.prog.wantsStandIn u) = true := by kernel_rfl
        exact (show Tryd.prog.wantsStandIn t = false by simpa using List.all_eq_true.1 hall t hm)⟩)
    (by kernel_rfl)
end Go.Proofs.YtfcigknalnmhcaaDoor
