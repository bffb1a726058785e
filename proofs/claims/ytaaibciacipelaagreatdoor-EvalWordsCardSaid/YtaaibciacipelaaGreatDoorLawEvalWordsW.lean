/- The statement EvalWords: two texts put together are as long as both; what is cut off and put together again is as it was; too long a one is bad. Conditions: none but what the card ties (the library's variables, and the table of forms, hold what their texts lay). -/
import Derived.Test.YtaaibciacipelaaGreatDoorMEvWr
import Derived.Test.YtaaibciacipelaaGreatDoorGE
namespace Go.Proofs.YtaaibciacipelaaGreatDoor
open Go.RowKit
set_option maxHeartbeats 8000000 in
set_option maxRecDepth 100000 in
theorem evalwords_walk (s t : ByteArray) (n : Int) (w : World) (_ : s.size ≤ 9223372036854775807) (_ : t.size ≤ 9223372036854775807) (n0 : -9223372036854775808 ≤ n) (n1 : n ≤ 9223372036854775807) (hE0 : EnvP w) :
    Calls Tryz.prog 7 #[.string s, .string t, .int .i64 n] w fun e w' => e = .returned (.bool true) ∧ Below w.heap.size w w' := by
  have HE := Lib.hid hE0
  obtain ⟨l, rfl⟩ : ∃ l : List UInt8, s = ⟨l.toArray⟩ := ⟨s.data.toList, by simp⟩
  obtain ⟨m, rfl⟩ : ∃ l : List UInt8, t = ⟨l.toArray⟩ := ⟨t.data.toList, by simp⟩
  have cA : ∀ w, Calls Tryz.prog 25 #[.string ⟨l.toArray⟩] w fun e w' => e = .returned (.bool (checkB 3 0 l)) ∧ Below w.heap.size w w' := fun w => may_any ⟨l.toArray⟩ w
  have cB : ∀ w, Calls Tryz.prog 25 #[.string ⟨m.toArray⟩] w fun e w' => e = .returned (.bool (checkB 3 0 m)) ∧ Below w.heap.size w w' := fun w => may_any ⟨m.toArray⟩ w
  by_cases hs : ((⟨l.toArray⟩ : ByteArray).size : Int) ≤ 400
  · by_cases ht : ((⟨m.toArray⟩ : ByteArray).size : Int) ≤ 400
    · have lA : l.length ≤ 800 := by
        have : (⟨l.toArray⟩ : ByteArray).size = l.length := rfl
        omega
      have lB : m.length ≤ 800 := by
        have : (⟨m.toArray⟩ : ByteArray).size = m.length := rfl
        omega
      cases hA : checkB 3 0 l with
      | false =>
        simp only [hA] at cA
        clear hA lA lB cB
        go_enter Tryz.func7, Tryz.ntmps7
        go_wp2_with fail
        (with_reducible refine (cA w).mono ?_)
        rintro e w1 ⟨rfl, b1⟩
        have B1 := Lib.hid b1
        clear b1
        go_wp2_with fail
        have caw := evawake_any w1 (HE.out.later B1.out)
        have HBz := Lib.hid B1.out
        (with_reducible refine caw.mono ?_)
        rintro e wz ⟨rfl, bz⟩
        have HBF := Lib.hid (below_to HBz.out bz)
        clear bz caw
        go_wp2_with fail
        go_ret
        exact ⟨rfl, HBF.out⟩
      | true =>
        simp only [hA] at cA
        cases hB : checkB 3 0 m with
        | false =>
          simp only [hB] at cB
          clear hB lA lB hA
          go_enter Tryz.func7, Tryz.ntmps7
          go_wp2_with fail
          (with_reducible refine (cA w).mono ?_)
          rintro e w1 ⟨rfl, b1⟩
          have B1 := Lib.hid b1
          clear b1
          go_wp2_with fail
          (with_reducible refine (cB w1).mono ?_)
          rintro e w2 ⟨rfl, b2⟩
          have B2 := Lib.hid (below_to B1.out b2)
          have E2 := Lib.hid (HE.out.later B2.out)
          clear b2
          go_wp2_with fail
          have caw := evawake_any w2 E2.out
          have HBz := Lib.hid B2.out
          (with_reducible refine caw.mono ?_)
          rintro e wz ⟨rfl, bz⟩
          have HBF := Lib.hid (below_to HBz.out bz)
          clear bz caw
          go_wp2_with fail
          go_ret
          exact ⟨rfl, HBF.out⟩
        | true =>
          simp only [hB] at cB
          have hvl := chk_text hA
          have hvm := chk_text hB
          have cl : countL l ≤ 100 := hvl.2
          have cm : countL m ≤ 100 := hvm.2
          by_cases hlong : 100 < countL l + countL m
          · have hr : texV (l ++ m) = ⟨4, 4, []⟩ := by
              unfold texV
              rw [count_app m hvl.1, if_pos (by omega)]
              rfl
            have hgt : decide ((countL l : Int) + (countL m : Int) > 100) = true := by simp; omega
            have ye := same_yes 4 4 ⟨#[]⟩
            go_enter Tryz.func7, Tryz.ntmps7
            go_wp2_with fail
            (with_reducible refine (cA w).mono ?_)
            rintro e w1 ⟨rfl, b1⟩
            have B1 := Lib.hid b1
            clear b1
            go_wp2_with fail
            (with_reducible refine (cB w1).mono ?_)
            rintro e w2 ⟨rfl, b2⟩
            have B2 := Lib.hid (below_to B1.out b2)
            have E2 := Lib.hid (HE.out.later B2.out)
            clear b2
            go_wp2_with fail
            (with_reducible refine (wtext_any _ w2).mono ?_)
            rintro e w3 ⟨rfl, d⟩
            have B3 := Lib.hid (below_to B2.out d)
            have E3 := Lib.hid (HE.out.later B3.out)
            clear d
            go_wp2_with fail
            (with_reducible refine (len_call hA lA w3 E3.out).mono ?_)
            rintro e w4 ⟨rfl, d⟩
            have B4 := Lib.hid (below_to B3.out d)
            have E4 := Lib.hid (HE.out.later B4.out)
            clear d
            go_wp2_with fail
            have d := below_alloc w4 (.cells #[.int .i64 1, .int .i64 (countL l : Int), .string ⟨#[]⟩] 41)
            have LS := Lib.hid (At3.new w4 1 (countL l : Int) ⟨#[]⟩)
            obtain ⟨w5, hw⟩ : ∃ x, w4.alloc (.cells #[.int .i64 1, .int .i64 (countL l : Int), .string ⟨#[]⟩] 41) = x := ⟨_, rfl⟩
            rw [hw] at d LS
            rw [hw]
            have B5 := Lib.hid (below_to B4.out d)
            have E5 := Lib.hid (HE.out.later B5.out)
            skip
            clear d hw
            (with_reducible refine (wtext_any _ w5).mono ?_)
            rintro e w6 ⟨rfl, d⟩
            have B6 := Lib.hid (below_to B5.out d)
            have E6 := Lib.hid (HE.out.later B6.out)
            replace LS := Lib.hid (LS.out.later d)
            clear d
            go_wp2_with fail
            (with_reducible refine (len_call hB lB w6 E6.out).mono ?_)
            rintro e w7 ⟨rfl, d⟩
            have B7 := Lib.hid (below_to B6.out d)
            have E7 := Lib.hid (HE.out.later B7.out)
            replace LS := Lib.hid (LS.out.later d)
            clear d
            go_wp2_with fail
            have d := below_alloc w7 (.cells #[.int .i64 1, .int .i64 (countL m : Int), .string ⟨#[]⟩] 41)
            have LT := Lib.hid (At3.new w7 1 (countL m : Int) ⟨#[]⟩)
            obtain ⟨w8, hw⟩ : ∃ x, w7.alloc (.cells #[.int .i64 1, .int .i64 (countL m : Int), .string ⟨#[]⟩] 41) = x := ⟨_, rfl⟩
            rw [hw] at d LT
            rw [hw]
            have B8 := Lib.hid (below_to B7.out d)
            have E8 := Lib.hid (HE.out.later B8.out)
            have LS := Lib.hid (LS.out.later d)
            clear d hw
            (with_reducible refine (wtext_any _ w8).mono ?_)
            rintro e w9 ⟨rfl, d⟩
            have B9 := Lib.hid (below_to B8.out d)
            have E9 := Lib.hid (HE.out.later B9.out)
            replace LS := Lib.hid (LS.out.later d)
            replace LT := Lib.hid (LT.out.later d)
            clear d
            go_wp2_with fail
            (with_reducible refine (wtext_any _ w9).mono ?_)
            rintro e w10 ⟨rfl, d⟩
            have B10 := Lib.hid (below_to B9.out d)
            have E10 := Lib.hid (HE.out.later B10.out)
            replace LS := Lib.hid (LS.out.later d)
            replace LT := Lib.hid (LT.out.later d)
            clear d
            go_wp2_with fail
            (with_reducible refine (cat_call hA lA hB lB hr w10 E10.out).mono ?_)
            rintro e w11 ⟨rfl, d⟩
            replace LS := Lib.hid (LS.out.later d)
            replace LT := Lib.hid (LT.out.later d)
            have hba := below_alloc w11 (.cells #[.int .i64 4, .int .i64 4, .string ⟨#[]⟩] 41)
            have hz := alloc_size w11 (.cells #[.int .i64 4, .int .i64 4, .string ⟨#[]⟩] 41)
            have B12 := Lib.hid (below_to (below_to B10.out d) hba)
            have E12 := Lib.hid (HE.out.later B12.out)
            have LC := Lib.hid (At3.new w11 4 4 ⟨#[]⟩)
            replace LS := Lib.hid (LS.out.later hba)
            replace LT := Lib.hid (LT.out.later hba)
            obtain ⟨hs1, p0, p1, p2⟩ := LS.out
            obtain ⟨hs2, q0, q1, q2⟩ := LT.out
            rw [hz] at hs1 hs2
            clear d hba hz
            go_wp2_with fail
            have caw := evawake_any _ E12.out
            have HBz := Lib.hid B12.out
            (with_reducible refine caw.mono ?_)
            rintro e wz ⟨rfl, bz⟩
            have HBF := Lib.hid (below_to HBz.out bz)
            clear bz caw
            go_wp2_with fail
            go_ret
            exact ⟨rfl, HBF.out⟩
          · have hr : texV (l ++ m) = ⟨3, 0, l ++ m⟩ := by
              unfold texV
              rw [count_app m hvl.1, if_neg (by omega)]
            have hgt : decide ((countL l : Int) + (countL m : Int) > 100) = false := by simp; omega
            have happ : (⟨l.toArray⟩ : ByteArray) ++ ⟨m.toArray⟩ = ⟨(l ++ m).toArray⟩ := by
              apply ByteArray.ext
              simp
            have nb := same_no 3 0 ⟨(l ++ m).toArray⟩
            go_enter Tryz.func7, Tryz.ntmps7
            go_wp2_with fail
            (with_reducible refine (cA w).mono ?_)
            rintro e w1 ⟨rfl, b1⟩
            have B1 := Lib.hid b1
            clear b1
            go_wp2_with fail
            (with_reducible refine (cB w1).mono ?_)
            rintro e w2 ⟨rfl, b2⟩
            have B2 := Lib.hid (below_to B1.out b2)
            have E2 := Lib.hid (HE.out.later B2.out)
            clear b2
            go_wp2_with fail
            (with_reducible refine (wtext_any _ w2).mono ?_)
            rintro e w3 ⟨rfl, d⟩
            have B3 := Lib.hid (below_to B2.out d)
            have E3 := Lib.hid (HE.out.later B3.out)
            clear d
            go_wp2_with fail
            (with_reducible refine (len_call hA lA w3 E3.out).mono ?_)
            rintro e w4 ⟨rfl, d⟩
            have B4 := Lib.hid (below_to B3.out d)
            have E4 := Lib.hid (HE.out.later B4.out)
            clear d
            go_wp2_with fail
            have d := below_alloc w4 (.cells #[.int .i64 1, .int .i64 (countL l : Int), .string ⟨#[]⟩] 41)
            have LS := Lib.hid (At3.new w4 1 (countL l : Int) ⟨#[]⟩)
            obtain ⟨w5, hw⟩ : ∃ x, w4.alloc (.cells #[.int .i64 1, .int .i64 (countL l : Int), .string ⟨#[]⟩] 41) = x := ⟨_, rfl⟩
            rw [hw] at d LS
            rw [hw]
            have B5 := Lib.hid (below_to B4.out d)
            have E5 := Lib.hid (HE.out.later B5.out)
            skip
            clear d hw
            (with_reducible refine (wtext_any _ w5).mono ?_)
            rintro e w6 ⟨rfl, d⟩
            have B6 := Lib.hid (below_to B5.out d)
            have E6 := Lib.hid (HE.out.later B6.out)
            replace LS := Lib.hid (LS.out.later d)
            clear d
            go_wp2_with fail
            (with_reducible refine (len_call hB lB w6 E6.out).mono ?_)
            rintro e w7 ⟨rfl, d⟩
            have B7 := Lib.hid (below_to B6.out d)
            have E7 := Lib.hid (HE.out.later B7.out)
            replace LS := Lib.hid (LS.out.later d)
            clear d
            go_wp2_with fail
            have d := below_alloc w7 (.cells #[.int .i64 1, .int .i64 (countL m : Int), .string ⟨#[]⟩] 41)
            have LT := Lib.hid (At3.new w7 1 (countL m : Int) ⟨#[]⟩)
            obtain ⟨w8, hw⟩ : ∃ x, w7.alloc (.cells #[.int .i64 1, .int .i64 (countL m : Int), .string ⟨#[]⟩] 41) = x := ⟨_, rfl⟩
            rw [hw] at d LT
            rw [hw]
            have B8 := Lib.hid (below_to B7.out d)
            have E8 := Lib.hid (HE.out.later B8.out)
            have LS := Lib.hid (LS.out.later d)
            clear d hw
            (with_reducible refine (wtext_any _ w8).mono ?_)
            rintro e w9 ⟨rfl, d⟩
            have B9 := Lib.hid (below_to B8.out d)
            have E9 := Lib.hid (HE.out.later B9.out)
            replace LS := Lib.hid (LS.out.later d)
            replace LT := Lib.hid (LT.out.later d)
            clear d
            go_wp2_with fail
            (with_reducible refine (wtext_any _ w9).mono ?_)
            rintro e w10 ⟨rfl, d⟩
            have B10 := Lib.hid (below_to B9.out d)
            have E10 := Lib.hid (HE.out.later B10.out)
            replace LS := Lib.hid (LS.out.later d)
            replace LT := Lib.hid (LT.out.later d)
            clear d
            go_wp2_with fail
            (with_reducible refine (cat_call hA lA hB lB hr w10 E10.out).mono ?_)
            rintro e w11 ⟨rfl, d⟩
            replace LS := Lib.hid (LS.out.later d)
            replace LT := Lib.hid (LT.out.later d)
            have hba := below_alloc w11 (.cells #[.int .i64 3, .int .i64 0, .string ⟨(l ++ m).toArray⟩] 41)
            have hz := alloc_size w11 (.cells #[.int .i64 3, .int .i64 0, .string ⟨(l ++ m).toArray⟩] 41)
            have B12 := Lib.hid (below_to (below_to B10.out d) hba)
            have E12 := Lib.hid (HE.out.later B12.out)
            have LC := Lib.hid (At3.new w11 3 0 ⟨(l ++ m).toArray⟩)
            replace LS := Lib.hid (LS.out.later hba)
            replace LT := Lib.hid (LT.out.later hba)
            obtain ⟨hs1, p0, p1, p2⟩ := LS.out
            obtain ⟨hs2, q0, q1, q2⟩ := LT.out
            rw [hz] at hs1 hs2
            clear d hba hz
            go_wp2_with fail
            obtain ⟨w12, hw12⟩ : ∃ x, w11.alloc (.cells #[.int .i64 3, .int .i64 0, .string ⟨(l ++ m).toArray⟩] 41) = x := ⟨_, rfl⟩
            rw [hw12] at B12 E12 LS LT LC ⊢
            clear hw12 p0 p1 p2 q0 q1 q2 hs1 hs2
            obtain ⟨gL, hgL⟩ : ∃ g, w4.heap.size = g := ⟨_, rfl⟩
            rw [hgL] at LS ⊢
            clear hgL
            have hAB : checkB 3 0 (l ++ m) = true := by
              unfold checkB
              simp [valid_app hvl.1 hvm.1, count_app m hvl.1]
              omega
            have lAB : (l ++ m).length ≤ 800 := by rw [List.length_append]; omega
            have hcut : cutL (l ++ m) ((countL l : Int)).toNat = l := by rw [Int.toNat_natCast]; exact cut_app m hvl.1
            refine wp_region_inv 14 119 [66, 67, 68, 69, 70, 71, 72, 73, 74, 75, 76, 77, 78, 10] (EWr l m gL w12.heap.size) (by kernel_rfl) rfl (by kernel_rfl) EWr.keep ?step ?last ?done
            case done => intro h; cases h
            case step =>
              refine ⟨?_, ?_, ?_, ?_, ?_, ?_, ?_, ?_, ?_, ?_, ?_, ?_, ?_, ?_, trivial⟩
              · intro a wz hF hB hdep K hK
                have e0 : a.tmps[0]?.getD undef = .string ⟨l.toArray⟩ := hF.at 0 (by decide)
                go_simp
                exact hK.out _ _ (Below.refl _ _) rfl
              · intro a wz hF hB hdep K hK
                have e1 : a.tmps[1]?.getD undef = .string ⟨m.toArray⟩ := hF.at 1 (by decide)
                go_simp
                exact hK.out _ _ (Below.refl _ _) rfl
              · intro a wz hF hB hdep K hK
                have e66 : a.tmps[66]?.getD undef = .string ⟨l.toArray⟩ := (slot_opt a 66).trans (hdep 0 (by kernel_rfl))
                have e67 : a.tmps[67]?.getD undef = .string ⟨m.toArray⟩ := (slot_opt a 67).trans (hdep 1 (by kernel_rfl))
                have hno : ¬ 9223372036854775807 < l.length + m.length := by omega
                go_simp
                exact hK.out _ _ (Below.refl _ _) rfl
              · intro a wz hF hB hdep K hK
                have e68 : a.tmps[68]?.getD undef = .string ⟨(l ++ m).toArray⟩ := (slot_opt a 68).trans (hdep 2 (by kernel_rfl))
                go_simp
                (with_reducible refine (wtext_any _ _).mono ?_)
                rintro e w2 ⟨rfl, b2⟩
                exact hK.out _ _ b2 rfl
              · intro a wz hF hB hdep K hK
                go_simp
                exact hK.out _ _ (Below.refl _ _) rfl
              · intro a wz hF hB hdep K hK
                have e69 : a.tmps[69]?.getD undef = EV 2 0 ⟨(l ++ m).toArray⟩ (.slice none 0 0) := (slot_opt a 69).trans (hdep 3 (by kernel_rfl))
                have e70 : a.tmps[70]?.getD undef = EV 4 0 ⟨#[110]⟩ (.slice none 0 0) := (slot_opt a 70).trans (hdep 4 (by kernel_rfl))
                go_simp
                exact hK.out _ _ (below_alloc _ _) ⟨wz.heap.size, rfl, cut_row_new _ lAB wz⟩
              · intro a wz hF hB hdep K hK
                obtain ⟨g, h71, hx⟩ := hdep 5 (by kernel_rfl)
                have e71 : a.tmps[71]?.getD undef = .slice (some ⟨g, 0, none⟩) 2 2 := (slot_opt a 71).trans h71
                go_simp
                exact hK.out _ _ (Below.refl _ _) ⟨g, rfl, hx⟩
              · intro a wz hF hB hdep K hK
                go_simp
                exact hK.out _ _ (below_alloc _ _) ⟨wz.heap.size, rfl, name_row_new wz⟩
              · intro a wz hF hB hdep K hK
                have e7 : a.tmps[7]?.getD undef = .pointer (some ⟨gL, 0, none⟩) := hF.at 7 (by decide)
                go_simp
                exact hK.out _ _ (Below.refl _ _) rfl
              · intro a wz hF hB hdep K hK
                have e74 : a.tmps[74]?.getD undef = .pointer (some ⟨gL, 1, none⟩) := (slot_opt a 74).trans (hdep 8 (by kernel_rfl))
                obtain ⟨-, c0, c1, c2⟩ := LS.out.later hB
                go_simp
                exact hK.out _ _ (Below.refl _ _) rfl
              · intro a wz hF hB hdep K hK
                have e75 : a.tmps[75]?.getD undef = .int .i64 (countL l : Int) := (slot_opt a 75).trans (hdep 9 (by kernel_rfl))
                go_simp
                exact hK.out _ _ (Below.refl _ _) rfl
              · intro a wz hF hB hdep K hK
                have e76 : a.tmps[76]?.getD undef = V3 1 (countL l : Int) ⟨#[]⟩ := (slot_opt a 76).trans (hdep 10 (by kernel_rfl))
                go_simp
                exact hK.out _ _ (below_alloc _ _) ⟨wz.heap.size, rfl, val_row_new _ wz⟩
              · intro a wz hF hB hdep K hK
                obtain ⟨g, h72, hx⟩ := hdep 6 (by kernel_rfl)
                obtain ⟨gn, h73, hn⟩ := hdep 7 (by kernel_rfl)
                obtain ⟨gv, h77, hv⟩ := hdep 11 (by kernel_rfl)
                have e72 : a.tmps[72]?.getD undef = EV 21 0 ⟨#[]⟩ (.slice (some ⟨g, 0, none⟩) 2 2) := (slot_opt a 72).trans h72
                have e73 : a.tmps[73]?.getD undef = .slice (some ⟨gn, 0, none⟩) 1 1 := (slot_opt a 73).trans h73
                have e77 : a.tmps[77]?.getD undef = .slice (some ⟨gv, 0, none⟩) 1 1 := (slot_opt a 77).trans h77
                rw [h72] at hx
                have c := cut_rows hAB (countL l : Int) (by omega) (by omega) hcut (E12.out.later hB) hx hn hv
                go_simp
                (with_reducible refine c.mono ?_)
                rintro e w2 ⟨rfl, b2⟩
                exact hK.out _ _ b2 rfl
              · intro a wz hF hB hdep K hK
                go_simp
                exact hK.out _ _ (below_alloc _ _) ⟨wz.heap.size, rfl, hB.size, NB.new wz _ _, At3.new wz 0 0 ⟨#[]⟩⟩
            case last =>
              intro o ho a wz hF hB hI
              obtain rfl := Option.some.inj ho
              obtain ⟨gX, h10, hgX, hnX, hatX⟩ := hI 13 (by decide)
              have h78 := hI 12 (by decide)
              have hl := hF.lit
              obtain ⟨σ, hσ⟩ : ∃ σ, slot a = σ := ⟨_, rfl⟩
              rw [hσ] at hl h10 h78
              have h10 : σ 10 = .pointer (some ⟨gX, 0, none⟩) := h10
              have h78 : σ 78 = V3 3 0 ⟨l.toArray⟩ := h78
              clear hσ hI hF ho
              subst hl
              simp only [lay, List.foldl_cons, List.foldl_nil, List.setIfInBounds_toArray, List.set_cons_zero, List.set_cons_succ, h10, h78]
              have BZ := Lib.hid (below_to B12.out hB)
              have HNX := Lib.hid hnX
              have HGX := Lib.hid hgX
              obtain ⟨hltX, x0, x1, x2⟩ := hatX
              have f0 := (hnX.weak 0).2
              have f1 := (hnX.weak 1).2
              have f2 := (hnX.weak 2).2
              clear hnX hB hgX
              go_simp
              have hat : At3 (((wz.setCell ⟨gX, 0, none⟩ (.int .i64 3)).setCell ⟨gX, 1, none⟩ (.int .i64 0)).setCell ⟨gX, 2, none⟩ (.string ⟨l.toArray⟩)) gX 3 0 ⟨l.toArray⟩ := ⟨by simpa using hltX, by go_simp, by go_simp, by go_simp⟩
              have hgw : w.heap.size ≤ gX := Nat.le_trans B12.out.size HGX.out
              have hb13 := ((BZ.out.setCell (p := ⟨gX, 0, none⟩) hgw (.int .i64 3)).setCell (p := ⟨gX, 1, none⟩) hgw (.int .i64 0)).setCell (p := ⟨gX, 2, none⟩) hgw (.string ⟨l.toArray⟩)
              obtain ⟨w13, hw13⟩ : ∃ x, ((wz.setCell ⟨gX, 0, none⟩ (.int .i64 3)).setCell ⟨gX, 1, none⟩ (.int .i64 0)).setCell ⟨gX, 2, none⟩ (.string ⟨l.toArray⟩) = x := ⟨_, rfl⟩
              rw [hw13] at hat hb13 ⊢
              have AX := Lib.hid hat
              have B13 := Lib.hid hb13
              have E13 := Lib.hid (HE.out.later B13.out)
              clear hat hb13 hgw hw13 x0 x1 x2 f0 f1 f2 hltX
              go_wp2_with fail
              (with_reducible refine (wtext_any _ w13).mono ?_)
              rintro e w14 ⟨rfl, d⟩
              have B14 := Lib.hid (below_to B13.out d)
              have E14 := Lib.hid (HE.out.later B14.out)
              replace AX := Lib.hid (AX.out.later d)
              clear d
              obtain ⟨r, hr2⟩ : ∃ r, cutL l n.toNat = r := ⟨_, rfl⟩
              have hrp : l.take r.length = r := by rw [← hr2]; exact cutL_prefix l n.toNat
              have HRP := Lib.hid hrp
              have cE := cut_call hA lA n n0 n1 hr2 w14 E14.out
              clear hr2 hrp
              go_wp2_with fail
              (with_reducible refine cE.mono ?_)
              rintro e w15 ⟨rfl, d⟩
              have hba := below_alloc w15 (.cells #[.int .i64 3, .int .i64 0, .string ⟨r.toArray⟩] 41)
              have hay := At3.new w15 3 0 ⟨r.toArray⟩
              have B16 := Lib.hid (below_to (below_to B14.out d) hba)
              replace AX := Lib.hid ((AX.out.later d).later hba)
              clear d cE
              go_wp2_with fail
              obtain ⟨w16, hw16⟩ : ∃ x, w15.alloc (.cells #[.int .i64 3, .int .i64 0, .string ⟨r.toArray⟩] 41) = x := ⟨_, rfl⟩
              rw [hw16] at hay B16 AX ⊢
              obtain ⟨gY, hgY⟩ : ∃ g, w15.heap.size = g := ⟨_, rfl⟩
              rw [hgY] at hay ⊢
              have AY := Lib.hid hay
              clear hay hba hw16 hgY
              have hlr : r.length ≤ l.length := by have := congrArg List.length HRP.out; rw [List.length_take] at this; omega
              have hext : (⟨l.toArray⟩ : ByteArray).extract 0 r.length = ⟨r.toArray⟩ := by
                apply ByteArray.ext
                rw [ByteArray.data_extract]
                simpa using HRP.out
              refine wp_region_held_drew (S := fun w' => Below w16.heap.size w16 w') (by kernel_rfl) ((Below.refl _ _).drew) (fun hHeld => ?_)
              refine held_take (i := 0) (v := ?_) rfl (by kernel_rfl) (by kernel_rfl) (by kernel_rfl) (fun _ _ _ h => h) (by rfl) hHeld ?_ ?_
              rotate_left
              · intro wz hSz; obtain ⟨-, q0, q1, q2⟩ := AX.out.later hSz; go_simp; try with_reducible rfl
              simp only [Act.put, List.setIfInBounds_toArray, List.set_cons_zero, List.set_cons_succ]
              refine held_take (i := 1) (v := ?_) rfl (by kernel_rfl) (by kernel_rfl) (by kernel_rfl) (fun _ _ _ h => h) (by rfl) hHeld ?_ ?_
              rotate_left
              · intro wz hSz; go_simp; try with_reducible rfl
              simp only [Act.put, List.setIfInBounds_toArray, List.set_cons_zero, List.set_cons_succ]
              refine held_take (i := 2) (v := ?_) rfl (by kernel_rfl) (by kernel_rfl) (by kernel_rfl) (fun _ _ _ h => h) (by rfl) hHeld ?_ ?_
              rotate_left
              · intro wz hSz; go_simp; try with_reducible rfl
              simp only [Act.put, List.setIfInBounds_toArray, List.set_cons_zero, List.set_cons_succ]
              refine held_take (i := 3) (v := .bool true) rfl (by kernel_rfl) (by kernel_rfl) (by kernel_rfl) (fun _ _ _ h => h) (by rfl) hHeld ?_ ?_
              · intro wz hSz; (have ye := same_yes 3 0 ⟨l.toArray⟩ wz; go_simp; first | done | rfl | exact ye)
              simp only [Act.put, List.setIfInBounds_toArray, List.set_cons_zero, List.set_cons_succ]
              refine held_take (i := 4) (v := ?_) rfl (by kernel_rfl) (by kernel_rfl) (by kernel_rfl) (fun _ _ _ h => h) (by rfl) hHeld ?_ ?_
              rotate_left
              · intro wz hSz; go_simp; try with_reducible rfl
              simp only [Act.put, List.setIfInBounds_toArray, List.set_cons_zero, List.set_cons_succ]
              refine held_take (i := 5) (v := ?_) rfl (by kernel_rfl) (by kernel_rfl) (by kernel_rfl) (fun _ _ _ h => h) (by rfl) hHeld ?_ ?_
              rotate_left
              · intro wz hSz; go_simp; try with_reducible rfl
              simp only [Act.put, List.setIfInBounds_toArray, List.set_cons_zero, List.set_cons_succ]
              refine held_take (i := 6) (v := ?_) rfl (by kernel_rfl) (by kernel_rfl) (by kernel_rfl) (fun _ _ _ h => h) (by rfl) hHeld ?_ ?_
              rotate_left
              · intro wz hSz; obtain ⟨-, q0, q1, q2⟩ := AY.out.later hSz; go_simp; try with_reducible rfl
              simp only [Act.put, List.setIfInBounds_toArray, List.set_cons_zero, List.set_cons_succ]
              refine held_take (i := 7) (v := .bool true) rfl (by kernel_rfl) (by kernel_rfl) (by kernel_rfl) (fun _ _ _ h => h) (by rfl) hHeld ?_ ?_
              · intro wz hSz; (go_simp; first | done | rfl)
              simp only [Act.put, List.setIfInBounds_toArray, List.set_cons_zero, List.set_cons_succ]
              refine held_take (i := 8) (v := ?_) rfl (by kernel_rfl) (by kernel_rfl) (by kernel_rfl) (fun _ _ _ h => h) (by rfl) hHeld ?_ ?_
              rotate_left
              · intro wz hSz; go_simp; try with_reducible rfl
              simp only [Act.put, List.setIfInBounds_toArray, List.set_cons_zero, List.set_cons_succ]
              refine held_take (i := 9) (v := ?_) rfl (by kernel_rfl) (by kernel_rfl) (by kernel_rfl) (fun _ _ _ h => h) (by rfl) hHeld ?_ ?_
              rotate_left
              · intro wz hSz; go_simp; try with_reducible rfl
              simp only [Act.put, List.setIfInBounds_toArray, List.set_cons_zero, List.set_cons_succ]
              refine held_take (i := 10) (v := ?_) rfl (by kernel_rfl) (by kernel_rfl) (by kernel_rfl) (fun _ _ _ h => h) (by rfl) hHeld ?_ ?_
              rotate_left
              · intro wz hSz; go_simp; try with_reducible rfl
              simp only [Act.put, List.setIfInBounds_toArray, List.set_cons_zero, List.set_cons_succ]
              refine held_take (i := 11) (v := ?_) rfl (by kernel_rfl) (by kernel_rfl) (by kernel_rfl) (fun _ _ _ h => h) (by rfl) hHeld ?_ ?_
              rotate_left
              · intro wz hSz; obtain ⟨-, q0, q1, q2⟩ := AY.out.later hSz; go_simp; try with_reducible rfl
              simp only [Act.put, List.setIfInBounds_toArray, List.set_cons_zero, List.set_cons_succ]
              refine held_take (i := 12) (v := ?_) rfl (by kernel_rfl) (by kernel_rfl) (by kernel_rfl) (fun _ _ _ h => h) (by rfl) hHeld ?_ ?_
              rotate_left
              · intro wz hSz; go_simp; try with_reducible rfl
              simp only [Act.put, List.setIfInBounds_toArray, List.set_cons_zero, List.set_cons_succ]
              refine held_take (i := 13) (v := ?_) rfl (by kernel_rfl) (by kernel_rfl) (by kernel_rfl) (fun _ _ _ h => h) (by rfl) hHeld ?_ ?_
              rotate_left
              · intro wz hSz; go_simp; try with_reducible rfl
              simp only [Act.put, List.setIfInBounds_toArray, List.set_cons_zero, List.set_cons_succ]
              refine held_take (i := 14) (v := ?_) rfl (by kernel_rfl) (by kernel_rfl) (by kernel_rfl) (fun _ _ _ h => h) (by rfl) hHeld ?_ ?_
              rotate_left
              · intro wz hSz; go_simp; try with_reducible rfl
              simp only [Act.put, List.setIfInBounds_toArray, List.set_cons_zero, List.set_cons_succ]
              refine held_take (i := 15) (v := .bool true) rfl (by kernel_rfl) (by kernel_rfl) (by kernel_rfl) (fun _ _ _ h => h) (by rfl) hHeld ?_ ?_
              · intro wz hSz; (go_simp; first | done | rfl | (simp; omega) | (trace_state; fail))
              simp only [Act.put, List.setIfInBounds_toArray, List.set_cons_zero, List.set_cons_succ]
              refine held_take (i := 16) (v := ?_) rfl (by kernel_rfl) (by kernel_rfl) (by kernel_rfl) (fun _ _ _ h => h) (by rfl) hHeld ?_ ?_
              rotate_left
              · intro wz hSz; go_simp; try with_reducible rfl
              simp only [Act.put, List.setIfInBounds_toArray, List.set_cons_zero, List.set_cons_succ]
              refine held_take (i := 17) (v := ?_) rfl (by kernel_rfl) (by kernel_rfl) (by kernel_rfl) (fun _ _ _ h => h) (by rfl) hHeld ?_ ?_
              rotate_left
              · intro wz hSz; go_simp; try with_reducible rfl
              simp only [Act.put, List.setIfInBounds_toArray, List.set_cons_zero, List.set_cons_succ]
              refine held_take (i := 18) (v := ?_) rfl (by kernel_rfl) (by kernel_rfl) (by kernel_rfl) (fun _ _ _ h => h) (by rfl) hHeld ?_ ?_
              rotate_left
              · intro wz hSz; go_simp; try with_reducible rfl
              simp only [Act.put, List.setIfInBounds_toArray, List.set_cons_zero, List.set_cons_succ]
              refine held_take (i := 19) (v := ?_) rfl (by kernel_rfl) (by kernel_rfl) (by kernel_rfl) (fun _ _ _ h => h) (by rfl) hHeld ?_ ?_
              rotate_left
              · intro wz hSz; go_simp; try with_reducible rfl
              simp only [Act.put, List.setIfInBounds_toArray, List.set_cons_zero, List.set_cons_succ]
              refine held_take (i := 20) (v := ?_) rfl (by kernel_rfl) (by kernel_rfl) (by kernel_rfl) (fun _ _ _ h => h) (by rfl) hHeld ?_ ?_
              rotate_left
              · intro wz hSz; obtain ⟨-, q0, q1, q2⟩ := AY.out.later hSz; go_simp; try with_reducible rfl
              simp only [Act.put, List.setIfInBounds_toArray, List.set_cons_zero, List.set_cons_succ]
              refine held_take (i := 21) (v := ?_) rfl (by kernel_rfl) (by kernel_rfl) (by kernel_rfl) (fun _ _ _ h => h) (by rfl) hHeld ?_ ?_
              rotate_left
              · intro wz hSz; go_simp; try with_reducible rfl
              simp only [Act.put, List.setIfInBounds_toArray, List.set_cons_zero, List.set_cons_succ]
              refine held_take (i := 22) (v := .string ⟨r.toArray⟩) rfl (by kernel_rfl) (by kernel_rfl) (by kernel_rfl) (fun _ _ _ h => h) (by rfl) hHeld ?_ ?_
              · intro wz hSz; (go_simp; first | done | rfl | exact hext | (rw [hext]; done) | (simp [hext]; done))
              simp only [Act.put, List.setIfInBounds_toArray, List.set_cons_zero, List.set_cons_succ]
              refine held_take (i := 23) (v := ?_) rfl (by kernel_rfl) (by kernel_rfl) (by kernel_rfl) (fun _ _ _ h => h) (by rfl) hHeld ?_ ?_
              rotate_left
              · intro wz hSz; go_simp; try with_reducible rfl
              simp only [Act.put, List.setIfInBounds_toArray, List.set_cons_zero, List.set_cons_succ]
              refine held_take (i := 24) (v := ?_) rfl (by kernel_rfl) (by kernel_rfl) (by kernel_rfl) (fun _ _ _ h => h) (by rfl) hHeld ?_ ?_
              rotate_left
              · intro wz hSz; obtain ⟨-, q0, q1, q2⟩ := AY.out.later hSz; go_simp; try with_reducible rfl
              simp only [Act.put, List.setIfInBounds_toArray, List.set_cons_zero, List.set_cons_succ]
              refine held_take (i := 25) (v := .bool true) rfl (by kernel_rfl) (by kernel_rfl) (by kernel_rfl) (fun _ _ _ h => h) (by rfl) hHeld ?_ ?_
              · intro wz hSz; (go_simp; first | done | rfl | (simp; done) | (trace_state; fail))
              simp only [Act.put, List.setIfInBounds_toArray, List.set_cons_zero, List.set_cons_succ]
              refine held_take (i := 26) (v := ?_) rfl (by kernel_rfl) (by kernel_rfl) (by kernel_rfl) (fun _ _ _ h => h) (by rfl) hHeld ?_ ?_
              rotate_left
              · intro wz hSz; go_simp; try with_reducible rfl
              simp only [Act.put, List.setIfInBounds_toArray, List.set_cons_zero, List.set_cons_succ]
              refine held_take (i := 27) (v := ?_) rfl (by kernel_rfl) (by kernel_rfl) (by kernel_rfl) (fun _ _ _ h => h) (by rfl) hHeld ?_ ?_
              rotate_left
              · intro wz hSz; go_simp; try with_reducible rfl
              simp only [Act.put, List.setIfInBounds_toArray, List.set_cons_zero, List.set_cons_succ]
              refine held_call (i := 28) (by kernel_rfl) rfl (by rfl) (by go_simp; try with_reducible rfl) (evawake_any _ (HE.out.later (below_to B16.out hHeld))) ?_
              rintro e wy ⟨rfl, hy⟩
              refine ⟨_, rfl, below_to hHeld hy, ?_⟩
              replace hHeld := below_to hHeld hy
              simp only [Act.put, List.setIfInBounds_toArray, List.set_cons_zero, List.set_cons_succ]
              refine held_take (i := 29) (v := ?_) rfl (by kernel_rfl) (by kernel_rfl) (by kernel_rfl) (fun _ _ _ h => h) (by rfl) hHeld ?_ ?_
              rotate_left
              · intro wz hSz; go_simp; try with_reducible rfl
              simp only [Act.put, List.setIfInBounds_toArray, List.set_cons_zero, List.set_cons_succ]
              refine held_take (i := 30) (v := ?_) rfl (by kernel_rfl) (by kernel_rfl) (by kernel_rfl) (fun _ _ _ h => h) (by rfl) hHeld ?_ ?_
              rotate_left
              · intro wz hSz; go_simp; try with_reducible rfl
              simp only [Act.put, List.setIfInBounds_toArray, List.set_cons_zero, List.set_cons_succ]
              refine wpAnyH_done (by kernel_rfl) ?_ _
              have HBF := Lib.hid (below_to B16.out hHeld)
              go_wp2_with fail
              go_ret
              exact ⟨rfl, HBF.out⟩
            
    · have hE := hE0
      go_enter Tryz.func7, Tryz.ntmps7
      go_wp2_with fail
      have caw := evawake_any w hE0
      have HBz := Lib.hid (Below.refl w.heap.size w)
      (with_reducible refine caw.mono ?_)
      rintro e wz ⟨rfl, bz⟩
      have HBF := Lib.hid (below_to HBz.out bz)
      clear bz caw
      go_wp2_with fail
      go_ret
      exact ⟨rfl, HBF.out⟩
  · have hE := hE0
    go_enter Tryz.func7, Tryz.ntmps7
    go_wp2_with fail
    have caw := evawake_any w hE0
    have HBz := Lib.hid (Below.refl w.heap.size w)
    (with_reducible refine caw.mono ?_)
    rintro e wz ⟨rfl, bz⟩
    have HBF := Lib.hid (below_to HBz.out bz)
    clear bz caw
    go_wp2_with fail
    go_ret
    exact ⟨rfl, HBF.out⟩
end Go.Proofs.YtaaibciacipelaaGreatDoor
