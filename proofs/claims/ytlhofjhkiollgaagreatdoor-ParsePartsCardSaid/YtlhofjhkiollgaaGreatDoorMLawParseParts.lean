/- ParseParts. -/
import Derived.Test.YtlhofjhkiollgaaGreatDoorGR
import Derived.Test.YtlhofjhkiollgaaGreatDoorGV
import Derived.Test.YtlhofjhkiollgaaGreatDoorMParSame
import Derived.Test.YtlhofjhkiollgaaGreatDoorGB
namespace Go.Proofs.YtlhofjhkiollgaaGreatDoor
open Go.RowKit

theorem place_at9 (v : Int) (n : Nat) (h0 : -9223372036854775808 ≤ v) (h1 : v ≤ 9223372036854775807) (hn : 1 ≤ n) (hn1 : n ≤ 4611686018427387904) :
    ∃ k : Nat, k < n ∧ ∀ w : World, Calls Tryz.prog 28 #[.int .i64 v, .int .i64 n] w fun e w' => e = .returned (.int .i64 (k : Int)) ∧ w = w' := by
  have lo := placeZ_lo v n (by omega)
  have hi := placeZ_hi v n (by omega)
  refine ⟨(placeZ v n).toNat, by omega, fun w => ?_⟩
  have c := place_any v n w h0 h1 (by omega) (by omega)
  rwa [show (((placeZ v n).toNat : Nat) : Int) = placeZ v n by omega]
abbrev sgV7 : Array Value := #[.string ⟨#[43]⟩, .string ⟨#[45]⟩, .string ⟨#[42]⟩, .string ⟨#[47]⟩, .string ⟨#[37]⟩, .string ⟨#[61]⟩, .string ⟨#[33, 61]⟩, .string ⟨#[60]⟩, .string ⟨#[60, 61]⟩, .string ⟨#[38]⟩, .string ⟨#[124]⟩]
theorem sgV7_at (k : Nat) (hk : k < 11) : sgV7[k]? = some (.string ⟨(sgA7.getD k []).toArray⟩) := by
  have : k = 0 ∨ k = 1 ∨ k = 2 ∨ k = 3 ∨ k = 4 ∨ k = 5 ∨ k = 6 ∨ k = 7 ∨ k = 8 ∨ k = 9 ∨ k = 10 := by omega
  rcases this with rfl | rfl | rfl | rfl | rfl | rfl | rfl | rfl | rfl | rfl | rfl <;> rfl
theorem sgA7_len (k : Nat) (hk : k < 11) : (sgA7.getD k []).length ≤ 2 := by
  have : k = 0 ∨ k = 1 ∨ k = 2 ∨ k = 3 ∨ k = 4 ∨ k = 5 ∨ k = 6 ∨ k = 7 ∨ k = 8 ∨ k = 9 ∨ k = 10 := by omega
  rcases this with rfl | rfl | rfl | rfl | rfl | rfl | rfl | rfl | rfl | rfl | rfl <;> decide
set_option maxHeartbeats 4000000 in
set_option maxRecDepth 1000000 in
theorem parseparts_walk (s t : ByteArray) (n : Int) (w : World) (hs : s.size ≤ 9223372036854775807) (ht : t.size ≤ 9223372036854775807) (n0 : -9223372036854775808 ≤ n) (n1 : n ≤ 9223372036854775807) (hE : EnvP w) :
    Calls Tryz.prog 7 #[.string s, .string t, .int .i64 n] w fun e w' => e = .returned (.bool true) ∧ Below w.heap.size w w' := by
  have cW := fun w' (hb : Below w.heap.size w w') => awake_any w' (hE.later hb)
  by_cases hl : 150 < s.size
  · have hlz : (150 : Int) < (s.size : Int) := by omega
    have c := cW w (Below.refl _ _)
    go_enter Tryz.func7, Tryz.ntmps7
    go_wp2_with fail
    refine c.mono ?_
    rintro e w1 ⟨rfl, b1⟩
    go_wp2_with fail
    go_ret
    exact ⟨rfl, b1⟩
  have hlz : ¬ (150 : Int) < (s.size : Int) := by omega
  by_cases hl2 : 150 < t.size
  · have hlz2 : (150 : Int) < (t.size : Int) := by omega
    have c := cW w (Below.refl _ _)
    go_enter Tryz.func7, Tryz.ntmps7
    go_wp2_with fail
    refine c.mono ?_
    rintro e w1 ⟨rfl, b1⟩
    go_wp2_with fail
    go_ret
    exact ⟨rfl, b1⟩
  have hlz2 : ¬ (150 : Int) < (t.size : Int) := by omega
  obtain ⟨R, hS⟩ := says_all s.data.toList
  obtain ⟨Q, hT⟩ := says_all t.data.toList
  obtain ⟨k, hk, cO⟩ := place_at9 n 11 n0 n1 (by decide) (by decide)
  rw [show ((11 : Nat) : Int) = 11 from rfl] at cO
  have cP := parse_vals s R w (by omega) hE hS
  have HCT := Lib.hid (fun w' (hb : Below w.heap.size w w') => parse_vals t Q w' (by omega) (hE.later hb) hT)
  clear hs ht n0 n1
  go_enter Tryz.func7, Tryz.ntmps7
  go_wp2_with fail
  refine cP.mono ?_
  rintro e w1 ⟨b1, op, nn, z, ao, l, c, p, f, rfl, hv⟩
  clear cP
  have hb2 := below_alloc w1 (.cells #[.int .i64 op, .int .i64 nn, .string z, .slice ao l c] 25)
  have hF := four_new w1 (.int .i64 op) (.int .i64 nn) (.string z) (.slice ao l c) 25
  have hv2 := hv.later hb2
  have hB2 := below_to b1 hb2
  obtain ⟨w2, hw2⟩ : ∃ w2, w1.alloc (.cells #[.int .i64 op, .int .i64 nn, .string z, .slice ao l c] 25) = w2 := ⟨_, rfl⟩
  rw [hw2] at hF hv2 hB2
  have c3 := HCT.out w2 hB2
  have HF := Lib.hid hF
  have HV := Lib.hid hv2
  have HB2 := Lib.hid hB2
  clear hv hb2 hv2 hB2 b1 hF HCT
  go_wp2_with fail
  refine c3.mono ?_
  rintro e w3 ⟨b3, op2, n2, z2, ao2, l2, c2, p2, f2, rfl, hu⟩
  clear c3
  have hb4 := below_alloc w3 (.cells #[.int .i64 op2, .int .i64 n2, .string z2, .slice ao2 l2 c2] 25)
  have hG := four_new w3 (.int .i64 op2) (.int .i64 n2) (.string z2) (.slice ao2 l2 c2) 25
  have hF4 := (HF.out.later b3).later hb4
  have hv4 := (HV.out.later b3).later hb4
  have hu4 := hu.later hb4
  have hB4 := below_to (below_to HB2.out b3) hb4
  obtain ⟨w4, hw4⟩ : ∃ w4, w3.alloc (.cells #[.int .i64 op2, .int .i64 n2, .string z2, .slice ao2 l2 c2] 25) = w4 := ⟨_, rfl⟩
  rw [hw4] at hG hF4 hv4 hu4 hB4
  have HB4 := Lib.hid hB4
  clear hu hb4 hB4 b3 HF HV HB2 hw2
  cases R with
  | error q =>
    have hq := says_err hS
    have hf : (f == 0) = false := by rw [beq_eq_false_iff_ne]; have := hv4.2; omega
    have c5 := cW w4 HB4.out
    clear hv4 hu4 hq hS hT cW hG hF4
    go_wp2_with fail
    refine c5.mono ?_
    rintro e w5 ⟨rfl, b5⟩
    go_wp2_with fail
    go_ret
    exact ⟨rfl, below_to HB4.out b5⟩
  | ok a =>
    cases Q with
    | error q =>
      have hq := says_err hT
      have hf : (f2 == 0) = false := by rw [beq_eq_false_iff_ne]; have := hu4.2; omega
      obtain ⟨rfl, rfl, -⟩ := hv4
      have c5 := cW w4 HB4.out
      clear hu4 hq hS hT cW hG hF4
      go_wp2_with fail
      refine c5.mono ?_
      rintro e w5 ⟨rfl, b5⟩
      go_wp2_with fail
      go_ret
      exact ⟨rfl, below_to HB4.out b5⟩
    | ok b =>
      obtain ⟨rfl, rfl, hx⟩ := hv4
      obtain ⟨rfl, rfl, hy⟩ := hu4
      obtain ⟨-, hna⟩ := chk_all (says_chk hS)
      obtain ⟨-, hnb⟩ := chk_all (says_chk hT)
      have hsa := hS
      have hsb := hT
      have hlen := sgA7_len k hk
      have hps := fun h => parts_says hS hT k hk h
      have hSGc := cells_of_alloc w4 sgV7 37 k
      rw [sgV7_at k hk] at hSGc
      have hb5 := below_alloc w4 (.cells sgV7 37)
      have hs5 := alloc_size w4 (.cells sgV7 37)
      have hkz : (k : Int) < 11 := by omega
      have HG := Lib.hid hG
      have HF4 := Lib.hid hF4
      have HX := Lib.hid hx
      have HY := Lib.hid hy
      have HPS := Lib.hid hps
      have HE := Lib.hid hE
      have HK := Lib.hid hk
      have HNA := Lib.hid hna
      have HNB := Lib.hid hnb
      clear hx hy hS hT hsa hsb hps hE hna hnb hF4 hG
      go_wp2_with fail
      refine (cO _).mono ?_
      rintro e w5' ⟨rfl, rfl⟩
      generalize hw5 : w4.alloc (.cells sgV7 37) = w5 at *
      have hF5 := HF4.out.later hb5
      have hG5 := HG.out.later hb5
      have hx5 := HX.out.later hb5
      have hy5 := HY.out.later hb5
      have hB5 := below_to HB4.out hb5
      have hg5 : w4.heap.size < w5.heap.size := by omega
      -- the row of two, and the expression that is wanted
      have hb6 := below_alloc w5 (.cells #[.int .i64 op, .int .i64 nn, .string z, .slice ao l c, .int .i64 op2, .int .i64 n2, .string z2, .slice ao2 l2 c2] 25)
      have hc6 := cells_of_alloc w5 #[.int .i64 op, .int .i64 nn, .string z, .slice ao l c, .int .i64 op2, .int .i64 n2, .string z2, .slice ao2 l2 c2] 25
      have hs6 := alloc_size w5 (.cells #[.int .i64 op, .int .i64 nn, .string z, .slice ao l c, .int .i64 op2, .int .i64 n2, .string z2, .slice ao2 l2 c2] 25)
      have hnb6 := NB.new w5 #[.int .i64 op, .int .i64 nn, .string z, .slice ao l c, .int .i64 op2, .int .i64 n2, .string z2, .slice ao2 l2 c2] 25
      obtain ⟨w6, hw6⟩ : ∃ w6, w5.alloc (.cells #[.int .i64 op, .int .i64 nn, .string z, .slice ao l c, .int .i64 op2, .int .i64 n2, .string z2, .slice ao2 l2 c2] 25) = w6 := ⟨_, rfl⟩
      rw [hw6] at hb6 hc6 hs6 hnb6
      have hx6 := (hx5.later hb6).wide (R := fun _ => True) (fun _ _ _ => trivial)
      have hy6 := (hy5.later hb6).wide (R := fun _ => True) (fun _ _ _ => trivial)
      have hrow : RowIn w6 (fun _ => True) w5.heap.size 0 [a, b] := RowIn.one hnb6 (hc6 0) (hc6 1) (hc6 2) (hc6 3) hx6 (RowIn.one hnb6 (hc6 4) (hc6 5) (hc6 6) (hc6 7) hy6 .none)
      have hwant := ex_two (op := ((7 + k : Nat) : Int)) ⟨by omega, by omega⟩ trivial (by omega) hrow
      have hko : ((7 + k : Nat) : Int) = 7 + (k : Int) := by push_cast; rfl
      have hb7 := below_alloc w6 (.cells #[.int .i64 (7 + (k : Int)), .int .i64 0, .string ⟨#[]⟩, .slice (some ⟨w5.heap.size, 0, none⟩) 2 2] 25)
      have hH7 := four_new w6 (.int .i64 (7 + (k : Int))) (.int .i64 0) (.string ⟨#[]⟩) (.slice (some ⟨w5.heap.size, 0, none⟩) 2 2) 25
      have hwant7 := hwant.later hb7
      have hB7 := below_to (below_to hB5 hb6) hb7
      have hSG7 : (w6.alloc (.cells #[.int .i64 (7 + (k : Int)), .int .i64 0, .string ⟨#[]⟩, .slice (some ⟨w5.heap.size, 0, none⟩) 2 2] 25)).cell? ⟨w4.heap.size, k, none⟩ = some (.string ⟨(sgA7.getD k []).toArray⟩) := by
        rw [hb7.cell (p := ⟨w4.heap.size, k, none⟩) (by dsimp only; omega), hb6.cell (p := ⟨w4.heap.size, k, none⟩) hg5]; exact hSGc
      obtain ⟨w7, hw7⟩ : ∃ w7, w6.alloc (.cells #[.int .i64 (7 + (k : Int)), .int .i64 0, .string ⟨#[]⟩, .slice (some ⟨w5.heap.size, 0, none⟩) 2 2] 25) = w7 := ⟨_, rfl⟩
      rw [hw7] at hb7 hH7 hwant7 hB7 hSG7
      obtain ⟨SG, hSG⟩ : ∃ SG : ByteArray, (⟨(sgA7.getD k []).toArray⟩ : ByteArray) = SG := ⟨_, rfl⟩
      have hSGs : SG.size ≤ 2 := by rw [← hSG]; simpa [ByteArray.size] using hlen
      have hTX : ((((((⟨#[40]⟩ : ByteArray) ++ s) ++ (⟨#[41]⟩ : ByteArray)) ++ SG) ++ (⟨#[40]⟩ : ByteArray) ++ t) ++ (⟨#[41]⟩ : ByteArray)).data.toList = partsT s.data.toList t.data.toList k := by
        rw [← hSG]; unfold partsT; simp
      have hTL : (partsT s.data.toList t.data.toList k).length ≤ 310 := by
        unfold partsT
        simp only [List.length_cons, List.length_append, size_list, List.length_nil]
        omega
      have c8 := parse_vals ((((((⟨#[40]⟩ : ByteArray) ++ s) ++ (⟨#[41]⟩ : ByteArray)) ++ SG) ++ (⟨#[40]⟩ : ByteArray) ++ t) ++ (⟨#[41]⟩ : ByteArray)) _ w7 (by rw [← size_list, hTX]; omega) (HE.out.later hB7) (by rw [hTX]; exact HPS.out (by omega))
      have hnw : nodes (.mk ((7 + k : Nat) : Int) 0 [] [a, b]) ≤ 300 := by
        have h1 := HNA.out
        have h2 := HNB.out
        rw [nodes, nodesL, nodesL, nodesL]; omega
      obtain ⟨W, hW⟩ : ∃ W, Ex.mk ((7 + k : Nat) : Int) 0 [] [a, b] = W := ⟨_, rfl⟩
      rw [hW] at c8 hwant7 hnw
      rw [hko] at hwant7
      rw [hSG] at hSG7
      have HWN := Lib.hid hwant7
      have HB7 := Lib.hid hB7
      have HH7 := Lib.hid hH7
      have HNW := Lib.hid hnw
      have hg6 : w5.heap.size < w6.heap.size := by omega
      have hg7 : w6.heap.size < w7.heap.size := hH7.lt
      have hg47 : w4.heap.size < w7.heap.size := by omega
      obtain ⟨-, x0, x1, x2, x3, -⟩ := hF5
      obtain ⟨-, y0, y1, y2, y3, -⟩ := hG5
      have o1 : ¬ 9223372036854775807 < 1 + s.size := by omega
      have o2 : ¬ 9223372036854775807 < 1 + s.size + 1 := by omega
      have o3 : ¬ 9223372036854775807 < 1 + s.size + 1 + SG.size := by omega
      have o4 : ¬ 9223372036854775807 < 1 + s.size + 1 + SG.size + 1 := by omega
      have o5 : ¬ 9223372036854775807 < 1 + s.size + 1 + SG.size + 1 + t.size := by omega
      have o6 : ¬ 9223372036854775807 < 1 + s.size + 1 + SG.size + 1 + t.size + 1 := by omega
      clear hx5 hy5 hx6 hy6 hrow hwant hwant7 hB7 hb5 hb6 hb7 hc6 hs5 hs6 hnb6 hB5 hH7 hTX hTL hSG hSGc hW hko hlen hnw hw5 cO HG HF4 HX HY hw4
      go_wp2_with fail
      refine c8.mono ?_
      rintro e w8 ⟨b8, op9, n9, z9, ao9, l9, c9, p9, f9, rfl, hv9⟩
      clear c8 x0 x1 x2 x3 y0 y1 y2 y3 o1 o2 o3 o4 o5 o6 hSG7 hw6 hw7
      have hb9 := below_alloc w8 (.cells #[.int .i64 op9, .int .i64 n9, .string z9, .slice ao9 l9 c9] 25)
      have hG9 := four_new w8 (.int .i64 op9) (.int .i64 n9) (.string z9) (.slice ao9 l9 c9) 25
      have hH9 := (HH7.out.later b8).later hb9
      have hW9 := (HWN.out.later b8).later hb9
      have hv9 := hv9.later hb9
      have hB9 := below_to (below_to HB7.out b8) hb9
      obtain ⟨w9, hw9⟩ : ∃ w9, w8.alloc (.cells #[.int .i64 op9, .int .i64 n9, .string z9, .slice ao9 l9 c9] 25) = w9 := ⟨_, rfl⟩
      rw [hw9] at hG9 hH9 hW9 hv9 hB9
      have cC := pcheck_any W _ _ w9 (HE.out.later hB9) hW9
      have HG9 := Lib.hid hG9
      have HH9 := Lib.hid hH9
      have HW9 := Lib.hid hW9
      have HB9 := Lib.hid hB9
      obtain ⟨-, h0, h1, h2, h3, -⟩ := hH9
      cases hc : chkB W with
      | false =>
        rw [hc] at cC hv9
        obtain ⟨rfl, rfl⟩ := hv9
        clear hb9 hG9 hW9 hB9 HG9 HH9 HW9 b8 HB7 HH7 HWN
        go_wp2_with fail
        refine cC.mono ?_
        rintro e w10 ⟨rfl, b10⟩
        have c11 := cW w10 (below_to HB9.out b10)
        clear cC cW
        go_wp2_with fail
        refine c11.mono ?_
        rintro e w11 ⟨rfl, b11⟩
        go_wp2_with fail
        go_ret
        exact ⟨rfl, below_to (below_to HB9.out b10) b11⟩
      | true =>
        rw [hc] at cC hv9
        obtain ⟨rfl, rfl, hx9⟩ := hv9
        have HX9 := Lib.hid hx9
        clear hb9 hG9 hW9 hB9 b8 HB7 HH7 HWN hx9
        go_wp2_with fail
        refine cC.mono ?_
        rintro e w10 ⟨rfl, b10⟩
        have hB10 := below_to HB9.out b10
        have c11 := psame_any W W _ _ _ _ w10 (HX9.out.later b10) (HW9.out.later b10) (by have := HNW.out; omega)
        obtain ⟨-, g0, g1, g2, g3, -⟩ := HG9.out.later b10
        obtain ⟨-, k0, k1, k2, k3, -⟩ := HH9.out.later b10
        have HB10 := Lib.hid hB10
        clear cC h0 h1 h2 h3 hB10 b10 HX9 HW9 HG9 HH9 hw9 HB9
        go_wp2_with fail
        refine c11.mono ?_
        rintro e w11 ⟨⟨r, rfl, hr⟩, b11⟩
        obtain rfl : r = true := hr.2 (by trivial)
        have hB11 := below_to HB10.out b11
        have c12 := cW w11 hB11
        have HB11 := Lib.hid hB11
        clear c11 b11 hB11 hr g0 g1 g2 g3 k0 k1 k2 k3 HB10 cW
        go_wp2_with fail
        refine c12.mono ?_
        rintro e w12 ⟨rfl, b12⟩
        go_wp2_with fail
        go_ret
        exact ⟨rfl, below_to HB11.out b12⟩
open Go.ChangeShapes Go.WideShapes Go.ChangeAt Go.RowKit Go.Lib Go.Shelf
set_option maxRecDepth 1000000 in
theorem parseparts_lifted (os : Os) (started : os.Started) (H : Type) (enc : TypeId × Value → H) :
    ReturnsInHanded {} Tryz.checked os 7 .any (fun w args => (Rows.parsePartsSpec.pre enc Tryz.prog Tryz.f7 [] false w args ∧ laidMetH Tryz.prog tabsLaid8 w) ∧ sizedMet enc Tryz.prog Tryz.f7 (OpenSpec.ofChange Rows.parsePartsSpec) false w args)
      (Rows.parsePartsSpec.post enc Tryz.prog Tryz.f7 false true false false) := by
  refine returnsInHanded_of_change_and (C := Tryz.checked) (X := fun w _ => laidMetH Tryz.prog tabsLaid8 w) (fun _ _ _ hh h => h.of_heap hh) own started (by kernel_rfl) Tryz.func7
    (ChangeSpec.witness_shaped (enc := enc) (C := Tryz.checked) (os := os) (X := fun w _ => laidMetH Tryz.prog tabsLaid8 w) false (World.laidAll Tryz.prog os tabsLaid8) #[.string ⟨#[]⟩, .string ⟨#[]⟩, .int .i64 0] 8 (World.laidAll_os _ _ _)
      (World.shaped_of_ZipB (by kernel_rfl) (by kernel_rfl)) (by kernel_rfl) (by kernel_rfl) (by kernel_rfl) (start_met8 os _)) ?_
  intro W base args ds gs before hval0 hW _ hsz0 hL _
  have hsz := hsz0
  have hval : ∀ (j : Nat) t v, Tryz.f7.params[j]? = some t → args[j]? = some v → Value.okWide Tryz.prog W .any base t v := hval0
  have hW' := hW
  obtain ⟨p, q, hA0, hV, rfl, _, _⟩ := hW
  have hA : DataW.TrodAll enc Tryz.prog W 0 (fun _ => true) true Tryz.f7.params.toList args.toList ds p := hA0
  rw [Tryz.params7] at hA hval
  obtain ⟨v0, v1, v2, d0, d1, d2, p0, p1, p2, rfl, rfl, rfl, h0, h1, h2⟩ := trodAll_three hA
  obtain ⟨rfl, rfl⟩ := trodVars_none hV
  obtain ⟨x0, rfl, rfl, rfl, wx0⟩ := Go.ChangeMaps.open_string Tryz.underlying9 (hval 0 9 v0 rfl rfl) h0
  have rx0 : x0.size ≤ 9223372036854775807 := by have := wx0; unfold maxLen at this; omega
  obtain ⟨x1, rfl, rfl, rfl, wx1⟩ := Go.ChangeMaps.open_string Tryz.underlying9 (hval 1 9 v1 rfl rfl) h1
  have rx1 : x1.size ≤ 9223372036854775807 := by have := wx1; unfold maxLen at this; omega
  obtain ⟨x2, rfl, rfl, rfl, wx2⟩ := open_int Tryz.underlying3 (hval 2 3 v2 rfl rfl) h2
  simp only [List.append_nil] at hW'
  refine (parseparts_walk x0 x1 x2 W rx0 rx1 (bounds_i64 wx2).1 (bounds_i64 wx2).2 (envP_of_laid hL)).mono fun e W' ⟨he, hb⟩ => ?_
  subst he
  exact ⟨_, rfl, _, _, _, [], _, [], hW', trodAll_mk1 (shut_bool Tryz.underlying4 _), trodAll_mk3 (Go.ChangeMaps.shut_string Tryz.underlying9 wx0) (Go.ChangeMaps.shut_string Tryz.underlying9 wx1) (shut_int Tryz.underlying3 wx2), rfl, hb.frame _, fun h => by cases h⟩

theorem parseparts_holds : Rows.ParsePartsSaid :=
  OpenClaim.holds_of_wide 7 Tryz.f7 rfl rfl rfl rfl rfl rfl rfl ⟨rfl, rfl, rfl, rfl, rfl⟩ rfl rfl rfl rfl rfl (by kernel_rfl) Tryz.func7 (by kernel_rfl)
    (of_decide_eq_true (by kernel_rfl)) (by unfold Func.isWrapper; first | (rw [if_pos (by decide +kernel)]; kernel_rfl) | (rw [if_neg (by decide +kernel)]; exact ⟨rfl, rfl⟩))
    (fun os started H enc _ => parseparts_lifted os started H enc)

theorem parseparts_card : Rows.ParsePartsCardSaid :=
  Claim7.holds_tied_plain_at .later [] [.data, .data, .data, .data, .sentinel, .sentinel, .data, .pinned] true _ true
    parseparts_holds (fun _ h => by cases h) (by kernel_rfl) (fun _ h => by cases h) parseParts_row_tie rfl ⟨rfl, rfl⟩ (by kernel_rfl) rfl
    (fun f fn hf hfn => by
      obtain rfl : f = 7 := Option.some.inj ((show Tryz.prog.funcNamed "palaver/palaverlaw07.ParseParts" = some 7 by kernel_rfl).symm.trans hf) |>.symm
      obtain rfl : fn = Tryz.f7 := (Option.some.inj (Tryz.func7.symm.trans hfn)).symm
      exact ⟨by kernel_rfl, fun j t ht => by
        rw [Tryz.params7] at ht
        have hm : t ∈ [9, 9, 3] := by simpa using Array.mem_of_getElem? ht
        have hall : ([9, 9, 3].all fun u => !Tryz.prog.wantsStandIn u) = true := by kernel_rfl
        exact (show Tryz.prog.wantsStandIn t = false by simpa using List.all_eq_true.1 hall t hm)⟩)
    (by kernel_rfl)
end Go.Proofs.YtlhofjhkiollgaaGreatDoor
