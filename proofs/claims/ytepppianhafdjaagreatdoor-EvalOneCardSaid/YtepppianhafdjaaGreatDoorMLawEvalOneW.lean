/- EvalOne: of two numbers, or two texts, one is less, or they are the same; the six comparisons are of one mind. -/
import Derived.Test.YtepppianhafdjaaGreatDoorMEvAsk
import Derived.Test.YtepppianhafdjaaGreatDoorGE
namespace Go.Proofs.YtepppianhafdjaaGreatDoor
open Go.RowKit

set_option maxHeartbeats 8000000 in
set_option maxRecDepth 100000 in
theorem evalone_walk (K n : Int) (s : ByteArray) (L m : Int) (t : ByteArray) (w : World) (k0 : -9223372036854775808 ≤ K) (k1 : K ≤ 9223372036854775807) (n0 : -9223372036854775808 ≤ n) (n1 : n ≤ 9223372036854775807) (_ : s.size ≤ maxLen)
    (l0 : -9223372036854775808 ≤ L) (l1 : L ≤ 9223372036854775807) (m0 : -9223372036854775808 ≤ m) (m1 : m ≤ 9223372036854775807) (_ : t.size ≤ maxLen) (hE : EnvP w) :
    Calls Tryz.prog 7 #[V3 K n s, V3 L m t] w fun e w' => e = .returned (.bool true) ∧ Below w.heap.size w w' := by
  obtain ⟨ls, rfl⟩ : ∃ l : List UInt8, s = ⟨l.toArray⟩ := ⟨s.data.toList, by simp⟩
  obtain ⟨lt, rfl⟩ : ∃ l : List UInt8, t = ⟨l.toArray⟩ := ⟨t.data.toList, by simp⟩
  have cA : ∀ w1, Calls Tryz.prog 18 #[V3 K n ⟨ls.toArray⟩] w1 fun e w' => e = .returned (.bool (checkB K n ls)) ∧ Below w1.heap.size w1 w' := fun w1 => refCheck_any K n ⟨ls.toArray⟩ w1
  have cB : ∀ w1, Calls Tryz.prog 18 #[V3 L m ⟨lt.toArray⟩] w1 fun e w' => e = .returned (.bool (checkB L m lt)) ∧ Below w1.heap.size w1 w' := fun w1 => refCheck_any L m ⟨lt.toArray⟩ w1
  have ba := below_alloc w (.cells #[.int .i64 K, .int .i64 n, .string ⟨ls.toArray⟩] 23)
  have bb := below_alloc (w.alloc (.cells #[.int .i64 K, .int .i64 n, .string ⟨ls.toArray⟩] 23)) (.cells #[.int .i64 L, .int .i64 m, .string ⟨lt.toArray⟩] 23)
  have ta := (At3.new w K n ⟨ls.toArray⟩).later bb
  have tb := At3.new (w.alloc (.cells #[.int .i64 K, .int .i64 n, .string ⟨ls.toArray⟩] 23)) L m ⟨lt.toArray⟩
  have hz : (w.alloc (.cells #[.int .i64 K, .int .i64 n, .string ⟨ls.toArray⟩] 23)).heap.size = w.heap.size + 1 := by simp
  rw [hz] at tb
  have hb0 := below_to ba bb
  obtain ⟨w0, hw0⟩ : ∃ w0, (w.alloc (.cells #[.int .i64 K, .int .i64 n, .string ⟨ls.toArray⟩] 23)).alloc (.cells #[.int .i64 L, .int .i64 m, .string ⟨lt.toArray⟩] 23) = w0 := ⟨_, rfl⟩
  rw [hw0] at ta tb hb0
  have hE0 := hE.later hb0
  have TA := Lib.hid ta
  clear ba bb hz hE
  cases hZa : checkB K n ls with
  | false =>
    simp only [hZa] at cA
    clear hZa cB
    go_enter Tryz.func7, Tryz.ntmps7
    obtain ⟨-, a0, a1, a2⟩ := ta
    go_wp2_with fail
    (with_reducible refine (cA w0).mono ?_)
    rintro e w1 ⟨rfl, hb1⟩
    have hE1 := hE0.later hb1
    have hbw := below_to hb0 hb1
    have tb1 := tb.later hb1
    have ta1 := TA.out.later hb1
    clear cA a0 a1 a2 tb
    have caw := evawake_any w1 hE1
    have HBz := Lib.hid hbw
    go_wp2_with fail
    (with_reducible refine caw.mono ?_)
    rintro e wz ⟨rfl, bz⟩
    have HBF := Lib.hid (below_to HBz.out bz)
    clear bz caw
    go_wp2_with fail
    go_ret
    exact ⟨rfl, HBF.out⟩
  | true =>
    simp only [hZa] at cA
    cases hZb : checkB L m lt with
    | false =>
      simp only [hZb] at cB
      clear hZa hZb
      go_enter Tryz.func7, Tryz.ntmps7
      obtain ⟨-, a0, a1, a2⟩ := ta
      go_wp2_with fail
      (with_reducible refine (cA w0).mono ?_)
      rintro e w1 ⟨rfl, hb1⟩
      have hE1 := hE0.later hb1
      have hbw := below_to hb0 hb1
      have tb1 := tb.later hb1
      have ta1 := TA.out.later hb1
      clear cA a0 a1 a2 tb
      have TB1 := Lib.hid tb1
      obtain ⟨-, a0, a1, a2⟩ := tb1
      go_wp2_with fail
      (with_reducible refine (cB w1).mono ?_)
      rintro e w2 ⟨rfl, hb2⟩
      have hE2 := hE1.later hb2
      have hbw2 := below_to hbw hb2
      have ta2 := ta1.later hb2
      have tb2 := TB1.out.later hb2
      clear cB a0 a1 a2 TB1 hb1 hb2
      have caw := evawake_any w2 hE2
      have HBz := Lib.hid hbw2
      go_wp2_with fail
      (with_reducible refine caw.mono ?_)
      rintro e wz ⟨rfl, bz⟩
      have HBF := Lib.hid (below_to HBz.out bz)
      clear bz caw
      go_wp2_with fail
      go_ret
      exact ⟨rfl, HBF.out⟩
    | true =>
      simp only [hZb] at cB
      by_cases hKL : K = L
      · subst hKL
        have hkk : (K != K) = false := by simp
        by_cases hK : K = 1 ∨ K = 3
        · have hx : (⟨K, n, ls⟩ : Va).ok := ⟨hZa, n0, n1⟩
          have hy : (⟨K, m, lt⟩ : Va).ok := ⟨hZb, m0, m1⟩
          obtain ⟨l, g, e1, O⟩ := one_of (x := ⟨K, n, ls⟩) (y := ⟨K, m, lt⟩) rfl hK
          have O0 := O.l0
          have O1 := O.g0
          have O2 := O.e0
          have O3 := O.sum
          have hK1 : (K != 1) = false ∨ (K != 1) = true ∧ (K != 3) = false := by
            rcases hK with rfl | rfl
            · exact .inl (by decide)
            · exact .inr ⟨by decide, by decide⟩
          clear hZa hZb
          rcases hK1 with hK1 | ⟨hK1, hK3⟩
          all_goals
            go_enter Tryz.func7, Tryz.ntmps7
            obtain ⟨-, a0, a1, a2⟩ := ta
            go_wp2_with fail
            (with_reducible refine (cA w0).mono ?_)
            rintro e w1 ⟨rfl, hb1⟩
            have hE1 := hE0.later hb1
            have hbw := below_to hb0 hb1
            have tb1 := tb.later hb1
            have ta1 := TA.out.later hb1
            clear cA a0 a1 a2 tb
            have TB1 := Lib.hid tb1
            obtain ⟨-, a0, a1, a2⟩ := tb1
            go_wp2_with fail
            (with_reducible refine (cB w1).mono ?_)
            rintro e w2 ⟨rfl, hb2⟩
            have hE2 := hE1.later hb2
            have hbw2 := below_to hbw hb2
            have ta2 := ta1.later hb2
            have tb2 := TB1.out.later hb2
            clear cB a0 a1 a2 TB1 hb1 hb2
            have ta3 := ta2
            have tb3 := tb2
            obtain ⟨-, x0, x1, x2⟩ := ta2
            obtain ⟨-, y0, y1, y2⟩ := tb2
            have hM := below_alloc w2 (.cells #[.string ⟨#[97]⟩, .string ⟨#[98]⟩] 9)
            have hN := below_alloc (w2.alloc (.cells #[.string ⟨#[97]⟩, .string ⟨#[98]⟩] 9)) (.cells #[.slice (some ⟨w2.heap.size, 0, none⟩) 2 2] 31)
            have hz3 := alloc_size w2 (.cells #[.string ⟨#[97]⟩, .string ⟨#[98]⟩] 9)
            have hS : AskS ((w2.alloc (.cells #[.string ⟨#[97]⟩, .string ⟨#[98]⟩] 9)).alloc (.cells #[.slice (some ⟨w2.heap.size, 0, none⟩) 2 2] 31)) (w2.heap.size + 1) w2.heap.size w.heap.size (w.heap.size + 1) ⟨K, n, ls⟩ ⟨K, m, lt⟩ :=
              ⟨by rw [← hz3, cells_of_alloc]; rfl, (ab_names w2).below hN, (ta3.later hM).later hN, (tb3.later hM).later hN⟩
            have hB3 := below_to (below_to hbw2 hM) hN
            have hE3 := hE2.later (below_to hM hN)
            have HS := Lib.hid hS
            have HE3 := Lib.hid hE3
            have HB3 := Lib.hid hB3
            clear hS hE3 hB3 hM hN hz3 ta1 ta3 tb3 TA hb0 hE0 hE1 hE2 hbw hbw2 hw0
            go_wp2_with fail
            have k0 := ask_any false 14 l _ _ _ _ _ _ _ (by decide) (by decide) hx hy HE3.out HS.out O.lt
            simp only [swP, swQ, if_false, Bool.false_eq_true] at k0
            (with_reducible refine k0.mono ?_)
            rintro e u0 ⟨rfl, d0⟩
            have D0 := Lib.hid d0
            have HS0 := Lib.hid (HS.out.later d0)
            clear k0 d0
            go_wp2_with fail
            have k1 := ask_any true 14 g _ _ _ _ _ _ _ (by decide) (by decide) hx hy (HE3.out.later D0.out) HS0.out O.gt
            simp only [swP, swQ, if_true] at k1
            (with_reducible refine k1.mono ?_)
            rintro e u1 ⟨rfl, d1⟩
            have D1 := Lib.hid (below_to D0.out d1)
            have HS1 := Lib.hid (HS0.out.later d1)
            clear k1 d1
            go_wp2_with fail
            have k2 := ask_any false 12 e1 _ _ _ _ _ _ _ (by decide) (by decide) hx hy (HE3.out.later D1.out) HS1.out O.eq
            simp only [swP, swQ, if_false, Bool.false_eq_true] at k2
            (with_reducible refine k2.mono ?_)
            rintro e u2 ⟨rfl, d2⟩
            have D2 := Lib.hid (below_to D1.out d2)
            have HS2 := Lib.hid (HS1.out.later d2)
            clear k2 d2
            go_wp2_with fail
            have k3 := ask_any false 13 (1 - e1) _ _ _ _ _ _ _ (by decide) (by decide) hx hy (HE3.out.later D2.out) HS2.out O.ne
            simp only [swP, swQ, if_false, Bool.false_eq_true] at k3
            (with_reducible refine k3.mono ?_)
            rintro e u3 ⟨rfl, d3⟩
            have D3 := Lib.hid (below_to D2.out d3)
            have HS3 := Lib.hid (HS2.out.later d3)
            clear k3 d3
            go_wp2_with fail
            have k4 := ask_any false 15 (l + e1) _ _ _ _ _ _ _ (by decide) (by decide) hx hy (HE3.out.later D3.out) HS3.out O.le
            simp only [swP, swQ, if_false, Bool.false_eq_true] at k4
            (with_reducible refine k4.mono ?_)
            rintro e u4 ⟨rfl, d4⟩
            have D4 := Lib.hid (below_to D3.out d4)
            have HS4 := Lib.hid (HS3.out.later d4)
            clear k4 d4
            go_wp2_with fail
            have k5 := ask_any true 15 (g + e1) _ _ _ _ _ _ _ (by decide) (by decide) hx hy (HE3.out.later D4.out) HS4.out O.ge
            simp only [swP, swQ, if_true] at k5
            (with_reducible refine k5.mono ?_)
            rintro e u5 ⟨rfl, d5⟩
            have D5 := Lib.hid (below_to D4.out d5)
            have HS5 := Lib.hid (HS4.out.later d5)
            clear k5 d5
            go_wp2_with fail
            have k6 := ask_any true 12 e1 _ _ _ _ _ _ _ (by decide) (by decide) hx hy (HE3.out.later D5.out) HS5.out O.eq2
            simp only [swP, swQ, if_true] at k6
            (with_reducible refine k6.mono ?_)
            rintro e u6 ⟨rfl, d6⟩
            have D6 := Lib.hid (below_to D5.out d6)
            have HS6 := Lib.hid (HS5.out.later d6)
            clear k6 d6
            go_wp2_with fail
            have hEF := HE3.out.later D6.out
            have caw := evawake_any u6 hEF
            have HBz := Lib.hid (below_to HB3.out D6.out)
            go_wp2_with fail
            (with_reducible refine caw.mono ?_)
            rintro e wz ⟨rfl, bz⟩
            have HBF := Lib.hid (below_to HBz.out bz)
            clear bz caw
            go_wp2_with fail
            go_ret
            exact ⟨rfl, HBF.out⟩
        · have hK1 : (K != 1) = true := by simp; omega
          have hK3 : (K != 3) = true := by simp; omega
          clear hZa hZb hK
          go_enter Tryz.func7, Tryz.ntmps7
          obtain ⟨-, a0, a1, a2⟩ := ta
          go_wp2_with fail
          (with_reducible refine (cA w0).mono ?_)
          rintro e w1 ⟨rfl, hb1⟩
          have hE1 := hE0.later hb1
          have hbw := below_to hb0 hb1
          have tb1 := tb.later hb1
          have ta1 := TA.out.later hb1
          clear cA a0 a1 a2 tb
          have TB1 := Lib.hid tb1
          obtain ⟨-, a0, a1, a2⟩ := tb1
          go_wp2_with fail
          (with_reducible refine (cB w1).mono ?_)
          rintro e w2 ⟨rfl, hb2⟩
          have hE2 := hE1.later hb2
          have hbw2 := below_to hbw hb2
          have ta2 := ta1.later hb2
          have tb2 := TB1.out.later hb2
          clear cB a0 a1 a2 TB1 hb1 hb2
          obtain ⟨-, x0, x1, x2⟩ := ta2
          obtain ⟨-, y0, y1, y2⟩ := tb2
          have caw := evawake_any w2 hE2
          have HBz := Lib.hid hbw2
          go_wp2_with fail
          (with_reducible refine caw.mono ?_)
          rintro e wz ⟨rfl, bz⟩
          have HBF := Lib.hid (below_to HBz.out bz)
          clear bz caw
          go_wp2_with fail
          go_ret
          exact ⟨rfl, HBF.out⟩
      · have hkl : (K != L) = true := by simpa using hKL
        clear hZa hZb hKL
        go_enter Tryz.func7, Tryz.ntmps7
        obtain ⟨-, a0, a1, a2⟩ := ta
        go_wp2_with fail
        (with_reducible refine (cA w0).mono ?_)
        rintro e w1 ⟨rfl, hb1⟩
        have hE1 := hE0.later hb1
        have hbw := below_to hb0 hb1
        have tb1 := tb.later hb1
        have ta1 := TA.out.later hb1
        clear cA a0 a1 a2 tb
        have TB1 := Lib.hid tb1
        obtain ⟨-, a0, a1, a2⟩ := tb1
        go_wp2_with fail
        (with_reducible refine (cB w1).mono ?_)
        rintro e w2 ⟨rfl, hb2⟩
        have hE2 := hE1.later hb2
        have hbw2 := below_to hbw hb2
        have ta2 := ta1.later hb2
        have tb2 := TB1.out.later hb2
        clear cB a0 a1 a2 TB1 hb1 hb2
        obtain ⟨-, x0, x1, x2⟩ := ta2
        obtain ⟨-, y0, y1, y2⟩ := tb2
        have caw := evawake_any w2 hE2
        have HBz := Lib.hid hbw2
        go_wp2_with fail
        (with_reducible refine caw.mono ?_)
        rintro e wz ⟨rfl, bz⟩
        have HBF := Lib.hid (below_to HBz.out bz)
        clear bz caw
        go_wp2_with fail
        go_ret
        exact ⟨rfl, HBF.out⟩
end Go.Proofs.YtepppianhafdjaaGreatDoor
