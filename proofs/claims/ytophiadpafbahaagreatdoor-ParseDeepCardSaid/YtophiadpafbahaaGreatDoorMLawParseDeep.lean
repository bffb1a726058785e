/- ParseDeep. -/
import Derived.Test.YtophiadpafbahaaGreatDoorGR
import Derived.Test.YtophiadpafbahaaGreatDoorMParDeep
import Derived.Test.YtophiadpafbahaaGreatDoorGB
import Derived.Deep.LoopGhost
import Derived.BigQuiet
namespace Go.Proofs.YtophiadpafbahaaGreatDoor
open Go.RowKit

theorem place_at7 (v : Int) (n : Nat) (h0 : -9223372036854775808 ≤ v) (h1 : v ≤ 9223372036854775807) (hn : 1 ≤ n) (hn1 : n ≤ 4611686018427387904) :
    ∃ k : Nat, k < n ∧ ∀ w : World, Calls Tryz.prog 26 #[.int .i64 v, .int .i64 n] w fun e w' => e = .returned (.int .i64 (k : Int)) ∧ w = w' := by
  have lo := placeZ_lo v n (by omega)
  have hi := placeZ_hi v n (by omega)
  refine ⟨(placeZ v n).toNat, by omega, fun w => ?_⟩
  have c := place_any v n w h0 h1 (by omega) (by omega)
  rwa [show (((placeZ v n).toNat : Nat) : Int) = placeZ v n by omega]
/-- The expression that grows: its block, its tree behind that. -/
def WRel (w : World) (gx : Nat) (wr : World) (j : Nat) : Prop :=
  Below w.heap.size w wr ∧ ∃ (op n : Int) (z : ByteArray) (ao : Option Addr) (c : Nat), Four wr gx (.int .i64 op) (.int .i64 n) (.string z) (.slice ao (wideE j).kids.length c) ∧ ExIn wr (fun b => gx < b) (wideE j) (EV op n z (.slice ao (wideE j).kids.length c))
theorem wrel_new (w wA : World) (hB : Below w.heap.size w wA) : WRel w wA.heap.size (wA.alloc (.cells #[.int .i64 1, .int .i64 0, .string ⟨#[]⟩, .slice none 0 0] 25)) 0 := by
  refine ⟨below_drew hB (Nat.le_refl _) _, 1, 0, ⟨#[]⟩, none, 0, ?_, ?_⟩
  · exact four_new wA (.int .i64 1) (.int .i64 0) (.string ⟨#[]⟩) (.slice none 0 0) 25
  · exact ExIn.leaf (op := 1) (n := 0) (s := []) ⟨⟨by decide, by decide⟩, ⟨by decide, by decide⟩, by decide⟩
theorem set4_past (w : World) (o : Obj) (n : Nat) (hn : n < w.heap.size) (x0 x1 x2 x3 : Value) : set4 (w.alloc o) n x0 x1 x2 x3 = (set4 w n x0 x1 x2 x3).alloc o := by
  unfold set4
  rw [World.setCell_alloc_past _ _ _ _ hn, World.setCell_alloc_past _ _ _ _ (by rw [set_size]; exact hn), World.setCell_alloc_past _ _ _ _ (by rw [set_size, set_size]; exact hn), World.setCell_alloc_past _ _ _ _ (by rw [set_size, set_size, set_size]; exact hn)]
theorem wrel_two {w wr : World} {gx j l c : Nat} {op n : Int} {z : ByteArray} {ao : Option Addr} (hB : Below w.heap.size w wr) (hg : w.heap.size ≤ gx) (hF : Four wr gx (.int .i64 op) (.int .i64 n) (.string z) (.slice ao l c)) (hx : ExIn wr (fun b => gx < b) (wideE j) (EV op n z (.slice ao l c))) (h2 : j % 4 = 3 ∧ nodes (wideE j) < 200) :
    WRel w gx (set4 (wr.alloc (.cells #[.int .i64 op, .int .i64 n, .string z, .slice ao l c, .int .i64 op, .int .i64 n, .string z, .slice ao l c] 25)) gx (.int .i64 7) (.int .i64 0) (.string ⟨#[]⟩) (.slice (some ⟨wr.heap.size, 0, none⟩) 2 2)) (j + 1) := by
  have hgl : gx < wr.heap.size := hF.1
  have hb := below_alloc wr (.cells #[.int .i64 op, .int .i64 n, .string z, .slice ao l c, .int .i64 op, .int .i64 n, .string z, .slice ao l c] 25)
  have hsz := alloc_size wr (.cells #[.int .i64 op, .int .i64 n, .string z, .slice ao l c, .int .i64 op, .int .i64 n, .string z, .slice ao l c] 25)
  have hc := cells_of_alloc wr #[.int .i64 op, .int .i64 n, .string z, .slice ao l c, .int .i64 op, .int .i64 n, .string z, .slice ao l c] 25
  have hx1 := hx.later hb
  have hF1 := hF.later hb
  have hB1 := below_drew hB (Nat.le_refl _) (.cells #[.int .i64 op, .int .i64 n, .string z, .slice ao l c, .int .i64 op, .int .i64 n, .string z, .slice ao l c] 25)
  obtain ⟨w1, hw1⟩ : ∃ w1, wr.alloc (.cells #[.int .i64 op, .int .i64 n, .string z, .slice ao l c, .int .i64 op, .int .i64 n, .string z, .slice ao l c] 25) = w1 := ⟨_, rfl⟩
  rw [hw1] at hc hx1 hF1 hB1 hsz ⊢
  have hrow : RowIn w1 (fun b => gx < b) wr.heap.size 0 [wideE j, wideE j] :=
    RowIn.one (hc 0) (hc 1) (hc 2) (hc 3) hx1 (RowIn.one (hc 4) (hc 5) (hc 6) (hc 7) hx1 .none)
  refine ⟨below_put4 hB1 hg _ _ _ _, 7, 0, ⟨#[]⟩, some ⟨wr.heap.size, 0, none⟩, 2, ?_, ?_⟩
  · rw [(wide_two h2).1]; exact hF1.set _ _ _ _
  · rw [(wide_two h2).1]
    have hst := Stays.set4 (S := fun b => gx < b) w1 (.int .i64 7) (.int .i64 0) (.string ⟨#[]⟩) (.slice (some ⟨wr.heap.size, 0, none⟩) 2 2) (g := gx) (Nat.lt_irrefl _)
    exact ex_two (op := 7) ⟨by decide, by decide⟩ hgl (by rw [set4_size]; omega) (RowIn.stays hst _ _ _ hgl (by omega) hrow)
theorem wrel_one {w wr : World} {gx j l c : Nat} {op n : Int} {z : ByteArray} {ao : Option Addr} (hB : Below w.heap.size w wr) (hg : w.heap.size ≤ gx) (hF : Four wr gx (.int .i64 op) (.int .i64 n) (.string z) (.slice ao l c)) (hx : ExIn wr (fun b => gx < b) (wideE j) (EV op n z (.slice ao l c))) (h2 : ¬ (j % 4 = 3 ∧ nodes (wideE j) < 200)) :
    WRel w gx (set4 (wr.alloc (.cells #[.int .i64 op, .int .i64 n, .string z, .slice ao l c] 25)) gx (.int .i64 5) (.int .i64 0) (.string ⟨#[]⟩) (.slice (some ⟨wr.heap.size, 0, none⟩) 1 1)) (j + 1) := by
  have hgl : gx < wr.heap.size := hF.1
  have hb := below_alloc wr (.cells #[.int .i64 op, .int .i64 n, .string z, .slice ao l c] 25)
  have hsz := alloc_size wr (.cells #[.int .i64 op, .int .i64 n, .string z, .slice ao l c] 25)
  have hc := cells_of_alloc wr #[.int .i64 op, .int .i64 n, .string z, .slice ao l c] 25
  have hx1 := hx.later hb
  have hF1 := hF.later hb
  have hB1 := below_drew hB (Nat.le_refl _) (.cells #[.int .i64 op, .int .i64 n, .string z, .slice ao l c] 25)
  obtain ⟨w1, hw1⟩ : ∃ w1, wr.alloc (.cells #[.int .i64 op, .int .i64 n, .string z, .slice ao l c] 25) = w1 := ⟨_, rfl⟩
  rw [hw1] at hc hx1 hF1 hB1 hsz ⊢
  have hrow : RowIn w1 (fun b => gx < b) wr.heap.size 0 [wideE j] :=
    RowIn.one (hc 0) (hc 1) (hc 2) (hc 3) hx1 .none
  refine ⟨below_put4 hB1 hg _ _ _ _, 5, 0, ⟨#[]⟩, some ⟨wr.heap.size, 0, none⟩, 1, ?_, ?_⟩
  · rw [(wide_one h2).1]; exact hF1.set _ _ _ _
  · rw [(wide_one h2).1]
    have hst := Stays.set4 (S := fun b => gx < b) w1 (.int .i64 5) (.int .i64 0) (.string ⟨#[]⟩) (.slice (some ⟨wr.heap.size, 0, none⟩) 1 1) (g := gx) (Nat.lt_irrefl _)
    exact ex_one (op := 5) ⟨by decide, by decide⟩ hgl (by rw [set4_size]; omega) (RowIn.stays hst _ _ _ hgl (by omega) hrow)
theorem deep_says (n : Nat) (hn : n < 40) : ∃ R, Says (deepT n) R ∧ ((n + 1 ≤ 24 ∧ ∃ e, R = .ok e) ∨ (¬ n + 1 ≤ 24 ∧ R = .error (0, 7))) := by
  have h := deep_text ⟨n, hn⟩
  dsimp only at h
  by_cases h1 : n + 1 ≤ 24
  · rw [if_pos h1] at h
    obtain ⟨e, he, -⟩ := outC_ok h
    exact ⟨_, he, .inl ⟨h1, e, rfl⟩⟩
  · rw [if_neg h1] at h
    exact ⟨_, outC_err h, .inr ⟨h1, rfl⟩⟩
set_option maxHeartbeats 4000000 in
set_option maxRecDepth 1000000 in
theorem parsedeep_walk (i k : Int) (w : World) (i0 : -9223372036854775808 ≤ i) (i1 : i ≤ 9223372036854775807) (k0 : -9223372036854775808 ≤ k) (k1 : k ≤ 9223372036854775807) (hE : EnvP w) :
    Calls Tryz.prog 9 #[.int .i64 i, .int .i64 k] w fun e w' => e = .returned (.bool true) ∧ Below w.heap.size w w' := by
  obtain ⟨a, ha, cA⟩ := place_at7 i 40 i0 i1 (by decide) (by decide)
  obtain ⟨b, hb, cB⟩ := place_at7 k 26 k0 k1 (by decide) (by decide)
  rw [show ((40 : Nat) : Int) = 40 from rfl] at cA
  rw [show ((26 : Nat) : Int) = 26 from rfl] at cB
  obtain ⟨R, hS, hR⟩ := deep_says a ha
  have hT : ((⟨(bangs a).toArray⟩ : ByteArray) ++ (⟨#[116, 114, 117, 101]⟩ : ByteArray)).data.toList = deepT a := by unfold deepT; simp
  have cP := parse_vals ((⟨(bangs a).toArray⟩ : ByteArray) ++ (⟨#[116, 114, 117, 101]⟩ : ByteArray)) R w (by rw [← size_list, hT]; unfold deepT; rw [List.length_append, bangs_len]; simp; omega) hE (by rw [hT]; exact hS)
  have HCP := Lib.hid cP
  have HCB := Lib.hid cB
  clear hT hS i0 i1 k0 k1 cP cB
  go_enter Tryz.func9, Tryz.ntmps9
  go_wp2_with fail
  refine (cA _).mono ?_
  rintro e w1 ⟨rfl, rfl⟩
  clear cA
  go_wp2_with fail
  go_loopg [6, 7] (a) (fun q s6 s7 wr => ∃ (j : Nat), j + q = a ∧ s7 = .int .i64 (j : Int) ∧ s6 = .string ⟨(bangs j).toArray⟩ ∧ w = wr)
  case atStart => exact ⟨0, by omega, rfl, rfl, rfl⟩
  case round =>
    obtain ⟨j, hja, rfl, rfl, rfl⟩ := hrel
    have HJ := Lib.hid hja
    have hbl := bangs_len j
    by_cases hj : j < a
    · have hjz : (j : Int) < (a : Int) := by omega
      have hov : ¬ 9223372036854775807 < (bangs j).length + 1 := by omega
      clear hja hbl
      go_wp2_with fail
      go_roundg (a - (j + 1))
      case measure => have := HJ.out; omega
      case rel => exact ⟨j + 1, by have := HJ.out; omega, by go_num, by rw [bangs, ← str_app], rfl⟩
    · have hjz : ¬ (j : Int) < (a : Int) := by omega
      obtain rfl : j = a := by omega
      have hov : ¬ 9223372036854775807 < (bangs j).length + 4 := by omega
      clear hja hbl hj
      go_wp2_with fail
      refine HCP.out.mono ?_
      rintro e w2 ⟨b2, op, n, z, ao, l, c, p, f, rfl, hv⟩
      have hk : f = 0 ∧ j + 1 ≤ 24 ∨ f = 7 ∧ ¬ j + 1 ≤ 24 := by
        rcases hR with ⟨h1, e, rfl⟩ | ⟨h1, rfl⟩
        · exact .inl ⟨hv.2.1, h1⟩
        · exact .inr ⟨hv.2, h1⟩
      clear hR hv HCP
      rcases hk with ⟨rfl, h24⟩ | ⟨rfl, h24⟩
      · have h24z : (j : Int) + 1 ≤ 24 := by omega
        go_wp2_with fail
        refine (HCB.out _).mono ?_
        rintro e w3 ⟨rfl, rfl⟩
        have B2 := below_drew b2 (Nat.le_refl _) (.cells #[.int .i64 op, .int .i64 n, .string z, .slice ao l c] 25)
        have s2 := alloc_size w2 (.cells #[.int .i64 op, .int .i64 n, .string z, .slice ao l c] 25)
        have HR0 := wrel_new w _ B2
        have hg2 : w.heap.size ≤ w2.heap.size + 1 := Nat.le_succ_of_le b2.size
        have HE := Lib.hid hE
        generalize (w2.alloc (.cells #[.int .i64 op, .int .i64 n, .string z, .slice ao l c] 25)) = wA at *
        have hgA : w.heap.size ≤ wA.heap.size := B2.size
        have HR1 := Lib.hid HR0
        clear B2 HR0 s2 hg2 b2 hE HCB
        go_wp2_with fail
        go_loopg [13, 14] (b) (fun q s13 s14 wr => ∃ (i2 : Nat), i2 + q = b ∧ s14 = .int .i64 (i2 : Int) ∧ s13 = .int .i64 (nodes (wideE i2) : Int) ∧ Hid (WRel w wA.heap.size wr i2))
        case atStart => exact ⟨0, by omega, rfl, rfl, HR1⟩
        case round =>
          obtain ⟨i2, hi2, rfl, rfl, HW⟩ := hrel
          have HI := Lib.hid hi2
          obtain ⟨hB, opx, nx, zx, aox, cx, hF, hx⟩ := HW.out
          have hnl := (wide_all i2).1
          by_cases hlt : i2 < b
          · have hltz : (i2 : Int) < (b : Int) := by omega
            by_cases h2 : i2 % 4 = 3 ∧ nodes (wideE i2) < 200
            · have HN := Lib.hid ((set4_past wr _ wA.heap.size hF.1 _ _ _ _) ▸ wrel_two hB hgA hF hx h2)
              have HM := Lib.hid (wide_two h2).2
              obtain ⟨gl, y0, y1, y2, y3, f0, f1, f2, f3⟩ := hF
              have m3 : (i2 : Int) % 4 = 3 := by omega
              have m3t : (i2 : Int).tmod 4 = 3 := by rw [Int.tmod_eq_emod_of_nonneg (by omega)]; exact m3
              have hnz : ((nodes (wideE i2) : Nat) : Int) < 200 := by omega
              clear hi2 hx hB h2 hnl HW HR1
              generalize nodes (wideE i2) = NN at *
              generalize (wideE i2).kids.length = LL at *
              go_wp2_with fail
              go_roundg (b - (i2 + 1))
              case measure => have := HI.out; omega
              case rel => exact ⟨i2 + 1, by have := HI.out; omega, by go_num, by rw [HM.out]; go_num, HN⟩
            · have HN := Lib.hid ((set4_past wr _ wA.heap.size hF.1 _ _ _ _) ▸ wrel_one hB hgA hF hx h2)
              have HM := Lib.hid (wide_one h2).2
              obtain ⟨gl, y0, y1, y2, y3, f0, f1, f2, f3⟩ := hF
              have mm : (i2 : Int).tmod 4 = ((i2 % 4 : Nat) : Int) := by rw [Int.tmod_eq_emod_of_nonneg (by omega)]; omega
              have key : (¬ i2 % 4 = 3) ∨ (i2 % 4 = 3 ∧ ¬ nodes (wideE i2) < 200) := by omega
              clear hi2 hx hB h2 HW HR1
              generalize nodes (wideE i2) = NN at *
              generalize (wideE i2).kids.length = LL at *
              rcases key with kk | ⟨kk, kn⟩
              · have mz : ¬ (i2 : Int).tmod 4 = 3 := by rw [mm]; omega
                have mb : ((i2 : Int).tmod 4 == 3) = false := beq_eq_false_iff_ne.2 mz
                clear mm kk
                go_wp2_with fail
                go_roundg (b - (i2 + 1))
                case measure => have := HI.out; omega
                case rel => exact ⟨i2 + 1, by have := HI.out; omega, by go_num, by rw [HM.out]; go_num, HN⟩
              · have mz : (i2 : Int).tmod 4 = 3 := by rw [mm]; omega
                have knz : ¬ (NN : Int) < 200 := by omega
                clear mm kk
                go_wp2_with fail
                go_roundg (b - (i2 + 1))
                case measure => have := HI.out; omega
                case rel => exact ⟨i2 + 1, by have := HI.out; omega, by go_num, by rw [HM.out]; go_num, HN⟩
          · have hltz : ¬ (i2 : Int) < (b : Int) := by omega
            obtain rfl : i2 = b := by omega
            have cC := pcheck_any _ _ _ wr (HE.out.later hB) hx
            rw [wide_chk] at cC
            have cW := fun w' (hb' : Below wr.heap.size wr w') => awake_any w' ((HE.out.later hB).later hb')
            have HB := Lib.hid hB
            obtain ⟨gl, y0, y1, y2, y3, -⟩ := hF
            clear hi2 hx hB HW HR1 hlt
            generalize nodes (wideE i2) = NN at *
            generalize (wideE i2).kids.length = LL at *
            have key : ((NN ≤ 128 ∧ i2 + 1 ≤ 24) ∨ (NN ≤ 128 ∧ ¬ i2 + 1 ≤ 24)) ∨ ¬ NN ≤ 128 := by omega
            rcases key with (⟨d1, d2⟩ | ⟨d1, d2⟩) | d1
            · have d1z : (NN : Int) ≤ 128 := by omega
              have d2z : (i2 : Int) + 1 ≤ 24 := by omega
              have hv : (decide (NN ≤ 128) && decide (i2 + 1 ≤ 24)) = true := by simp [d1, d2]
              rw [hv] at cC
              go_wp2_with fail
              refine cC.mono ?_
              rintro e w5 ⟨rfl, b5⟩
              have cW2 := cW w5 b5
              clear cC cW
              go_wp2_with fail
              refine cW2.mono ?_
              rintro e w6 ⟨rfl, b6⟩
              go_wp2_with fail
              go_ret
              exact ⟨rfl, below_to (below_to HB.out b5) b6⟩
            · have d1z : (NN : Int) ≤ 128 := by omega
              have d2z : ¬ (i2 : Int) + 1 ≤ 24 := by omega
              have d2b : decide ((i2 : Int) + 1 ≤ 24) = false := decide_eq_false d2z
              have hv : (decide (NN ≤ 128) && decide (i2 + 1 ≤ 24)) = false := by simp [d1, d2]
              rw [hv] at cC
              go_wp2_with fail
              refine cC.mono ?_
              rintro e w5 ⟨rfl, b5⟩
              have cW2 := cW w5 b5
              clear cC cW
              go_wp2_with fail
              refine cW2.mono ?_
              rintro e w6 ⟨rfl, b6⟩
              go_wp2_with fail
              go_ret
              exact ⟨rfl, below_to (below_to HB.out b5) b6⟩
            · have d1z : ¬ (NN : Int) ≤ 128 := by omega
              have hv : (decide (NN ≤ 128) && decide (i2 + 1 ≤ 24)) = false := by simp [d1]
              rw [hv] at cC
              go_wp2_with fail
              refine cC.mono ?_
              rintro e w5 ⟨rfl, b5⟩
              have cW2 := cW w5 b5
              clear cC cW
              go_wp2_with fail
              refine cW2.mono ?_
              rintro e w6 ⟨rfl, b6⟩
              go_wp2_with fail
              go_ret
              exact ⟨rfl, below_to (below_to HB.out b5) b6⟩
      · have h24z : ¬ (j : Int) + 1 ≤ 24 := by omega
        have h24b : decide ((j : Int) + 1 ≤ 24) = false := decide_eq_false h24z
        go_wp2_with fail
        refine (HCB.out _).mono ?_
        rintro e w3 ⟨rfl, rfl⟩
        have B2 := below_drew b2 (Nat.le_refl _) (.cells #[.int .i64 op, .int .i64 n, .string z, .slice ao l c] 25)
        have s2 := alloc_size w2 (.cells #[.int .i64 op, .int .i64 n, .string z, .slice ao l c] 25)
        have HR0 := wrel_new w _ B2
        have hg2 : w.heap.size ≤ w2.heap.size + 1 := Nat.le_succ_of_le b2.size
        have HE := Lib.hid hE
        generalize (w2.alloc (.cells #[.int .i64 op, .int .i64 n, .string z, .slice ao l c] 25)) = wA at *
        have hgA : w.heap.size ≤ wA.heap.size := B2.size
        have HR1 := Lib.hid HR0
        clear B2 HR0 s2 hg2 b2 hE HCB
        go_wp2_with fail
        go_loopg [13, 14] (b) (fun q s13 s14 wr => ∃ (i2 : Nat), i2 + q = b ∧ s14 = .int .i64 (i2 : Int) ∧ s13 = .int .i64 (nodes (wideE i2) : Int) ∧ Hid (WRel w wA.heap.size wr i2))
        case atStart => exact ⟨0, by omega, rfl, rfl, HR1⟩
        case round =>
          obtain ⟨i2, hi2, rfl, rfl, HW⟩ := hrel
          have HI := Lib.hid hi2
          obtain ⟨hB, opx, nx, zx, aox, cx, hF, hx⟩ := HW.out
          have hnl := (wide_all i2).1
          by_cases hlt : i2 < b
          · have hltz : (i2 : Int) < (b : Int) := by omega
            by_cases h2 : i2 % 4 = 3 ∧ nodes (wideE i2) < 200
            · have HN := Lib.hid ((set4_past wr _ wA.heap.size hF.1 _ _ _ _) ▸ wrel_two hB hgA hF hx h2)
              have HM := Lib.hid (wide_two h2).2
              obtain ⟨gl, y0, y1, y2, y3, f0, f1, f2, f3⟩ := hF
              have m3 : (i2 : Int) % 4 = 3 := by omega
              have m3t : (i2 : Int).tmod 4 = 3 := by rw [Int.tmod_eq_emod_of_nonneg (by omega)]; exact m3
              have hnz : ((nodes (wideE i2) : Nat) : Int) < 200 := by omega
              clear hi2 hx hB h2 hnl HW HR1
              generalize nodes (wideE i2) = NN at *
              generalize (wideE i2).kids.length = LL at *
              go_wp2_with fail
              go_roundg (b - (i2 + 1))
              case measure => have := HI.out; omega
              case rel => exact ⟨i2 + 1, by have := HI.out; omega, by go_num, by rw [HM.out]; go_num, HN⟩
            · have HN := Lib.hid ((set4_past wr _ wA.heap.size hF.1 _ _ _ _) ▸ wrel_one hB hgA hF hx h2)
              have HM := Lib.hid (wide_one h2).2
              obtain ⟨gl, y0, y1, y2, y3, f0, f1, f2, f3⟩ := hF
              have mm : (i2 : Int).tmod 4 = ((i2 % 4 : Nat) : Int) := by rw [Int.tmod_eq_emod_of_nonneg (by omega)]; omega
              have key : (¬ i2 % 4 = 3) ∨ (i2 % 4 = 3 ∧ ¬ nodes (wideE i2) < 200) := by omega
              clear hi2 hx hB h2 HW HR1
              generalize nodes (wideE i2) = NN at *
              generalize (wideE i2).kids.length = LL at *
              rcases key with kk | ⟨kk, kn⟩
              · have mz : ¬ (i2 : Int).tmod 4 = 3 := by rw [mm]; omega
                have mb : ((i2 : Int).tmod 4 == 3) = false := beq_eq_false_iff_ne.2 mz
                clear mm kk
                go_wp2_with fail
                go_roundg (b - (i2 + 1))
                case measure => have := HI.out; omega
                case rel => exact ⟨i2 + 1, by have := HI.out; omega, by go_num, by rw [HM.out]; go_num, HN⟩
              · have mz : (i2 : Int).tmod 4 = 3 := by rw [mm]; omega
                have knz : ¬ (NN : Int) < 200 := by omega
                clear mm kk
                go_wp2_with fail
                go_roundg (b - (i2 + 1))
                case measure => have := HI.out; omega
                case rel => exact ⟨i2 + 1, by have := HI.out; omega, by go_num, by rw [HM.out]; go_num, HN⟩
          · have hltz : ¬ (i2 : Int) < (b : Int) := by omega
            obtain rfl : i2 = b := by omega
            have cC := pcheck_any _ _ _ wr (HE.out.later hB) hx
            rw [wide_chk] at cC
            have cW := fun w' (hb' : Below wr.heap.size wr w') => awake_any w' ((HE.out.later hB).later hb')
            have HB := Lib.hid hB
            obtain ⟨gl, y0, y1, y2, y3, -⟩ := hF
            clear hi2 hx hB HW HR1 hlt
            generalize nodes (wideE i2) = NN at *
            generalize (wideE i2).kids.length = LL at *
            have key : ((NN ≤ 128 ∧ i2 + 1 ≤ 24) ∨ (NN ≤ 128 ∧ ¬ i2 + 1 ≤ 24)) ∨ ¬ NN ≤ 128 := by omega
            rcases key with (⟨d1, d2⟩ | ⟨d1, d2⟩) | d1
            · have d1z : (NN : Int) ≤ 128 := by omega
              have d2z : (i2 : Int) + 1 ≤ 24 := by omega
              have hv : (decide (NN ≤ 128) && decide (i2 + 1 ≤ 24)) = true := by simp [d1, d2]
              rw [hv] at cC
              go_wp2_with fail
              refine cC.mono ?_
              rintro e w5 ⟨rfl, b5⟩
              have cW2 := cW w5 b5
              clear cC cW
              go_wp2_with fail
              refine cW2.mono ?_
              rintro e w6 ⟨rfl, b6⟩
              go_wp2_with fail
              go_ret
              exact ⟨rfl, below_to (below_to HB.out b5) b6⟩
            · have d1z : (NN : Int) ≤ 128 := by omega
              have d2z : ¬ (i2 : Int) + 1 ≤ 24 := by omega
              have d2b : decide ((i2 : Int) + 1 ≤ 24) = false := decide_eq_false d2z
              have hv : (decide (NN ≤ 128) && decide (i2 + 1 ≤ 24)) = false := by simp [d1, d2]
              rw [hv] at cC
              go_wp2_with fail
              refine cC.mono ?_
              rintro e w5 ⟨rfl, b5⟩
              have cW2 := cW w5 b5
              clear cC cW
              go_wp2_with fail
              refine cW2.mono ?_
              rintro e w6 ⟨rfl, b6⟩
              go_wp2_with fail
              go_ret
              exact ⟨rfl, below_to (below_to HB.out b5) b6⟩
            · have d1z : ¬ (NN : Int) ≤ 128 := by omega
              have hv : (decide (NN ≤ 128) && decide (i2 + 1 ≤ 24)) = false := by simp [d1]
              rw [hv] at cC
              go_wp2_with fail
              refine cC.mono ?_
              rintro e w5 ⟨rfl, b5⟩
              have cW2 := cW w5 b5
              clear cC cW
              go_wp2_with fail
              refine cW2.mono ?_
              rintro e w6 ⟨rfl, b6⟩
              go_wp2_with fail
              go_ret
              exact ⟨rfl, below_to (below_to HB.out b5) b6⟩
open Go.ChangeShapes Go.WideShapes Go.ChangeAt Go.RowKit Go.Lib Go.Shelf
set_option maxRecDepth 1000000 in
theorem parsedeep_lifted (os : Os) (started : os.Started) (H : Type) (enc : TypeId × Value → H) :
    ReturnsInHanded {} Tryz.checked os 9 .any (fun w args => (Rows.parseDeepSpec.pre enc Tryz.prog Tryz.f9 [] false w args ∧ laidMetH Tryz.prog tabsLaid8 w) ∧ sizedMet enc Tryz.prog Tryz.f9 (OpenSpec.ofChange Rows.parseDeepSpec) false w args)
      (Rows.parseDeepSpec.post enc Tryz.prog Tryz.f9 false true false false) := by
  refine returnsInHanded_of_change_and (C := Tryz.checked) (X := fun w _ => laidMetH Tryz.prog tabsLaid8 w) (fun _ _ _ hh h => h.of_heap hh) own started (by kernel_rfl) Tryz.func9
    (ChangeSpec.witness_shaped (enc := enc) (C := Tryz.checked) (os := os) (X := fun w _ => laidMetH Tryz.prog tabsLaid8 w) false (World.laidAll Tryz.prog os tabsLaid8) #[.int .i64 0, .int .i64 0] 8 (World.laidAll_os _ _ _)
      (World.shaped_of_ZipB (by kernel_rfl) (by kernel_rfl)) (by kernel_rfl) (by kernel_rfl) (by kernel_rfl) (start_met8 os _)) ?_
  intro W base args ds gs before hval0 hW _ hsz0 hL _
  have hsz := hsz0
  have hval : ∀ (j : Nat) t v, Tryz.f9.params[j]? = some t → args[j]? = some v → Value.okWide Tryz.prog W .any base t v := hval0
  have hW' := hW
  obtain ⟨p, q, hA0, hV, rfl, _, _⟩ := hW
  have hA : DataW.TrodAll enc Tryz.prog W 0 (fun _ => true) true Tryz.f9.params.toList args.toList ds p := hA0
  rw [Tryz.params9] at hA hval
  obtain ⟨v0, v1, d0, d1, p0, p1, rfl, rfl, rfl, h0, h1⟩ := trodAll_two hA
  obtain ⟨rfl, rfl⟩ := trodVars_none hV
  obtain ⟨x0, rfl, rfl, rfl, wx0⟩ := open_int Tryz.underlying3 (hval 0 3 v0 rfl rfl) h0
  obtain ⟨x1, rfl, rfl, rfl, wx1⟩ := open_int Tryz.underlying3 (hval 1 3 v1 rfl rfl) h1
  simp only [List.append_nil] at hW'
  refine (parsedeep_walk x0 x1 W (bounds_i64 wx0).1 (bounds_i64 wx0).2 (bounds_i64 wx1).1 (bounds_i64 wx1).2 (envP_of_laid hL)).mono fun e W' ⟨he, hb⟩ => ?_
  subst he
  exact ⟨_, rfl, _, _, _, [], _, [], hW', trodAll_mk1 (shut_bool Tryz.underlying4 _), trodAll_mk2 (shut_int Tryz.underlying3 wx0) (shut_int Tryz.underlying3 wx1), rfl, hb.frame _, fun h => by cases h⟩

theorem parsedeep_holds : Rows.ParseDeepSaid :=
  OpenClaim.holds_of_wide 9 Tryz.f9 rfl rfl rfl rfl rfl rfl rfl ⟨rfl, rfl, rfl, rfl, rfl⟩ rfl rfl rfl rfl rfl (by kernel_rfl) Tryz.func9 (by kernel_rfl)
    (of_decide_eq_true (by kernel_rfl)) (by unfold Func.isWrapper; first | (rw [if_pos (by decide +kernel)]; kernel_rfl) | (rw [if_neg (by decide +kernel)]; exact ⟨rfl, rfl⟩))
    (fun os started H enc _ => parsedeep_lifted os started H enc)

theorem parsedeep_card : Rows.ParseDeepCardSaid :=
  Claim7.holds_tied_plain_at .later [] [.data, .data, .data, .data, .sentinel, .sentinel, .data, .pinned] true _ true
    parsedeep_holds (fun _ h => by cases h) (by kernel_rfl) (fun _ h => by cases h) parseDeep_row_tie rfl ⟨rfl, rfl⟩ (by kernel_rfl) rfl
    (fun f fn hf hfn => by
      obtain rfl : f = 9 := Option.some.inj ((show Tryz.prog.funcNamed "palaver/palaverlaw07.ParseDeep" = some 9 by kernel_rfl).symm.trans hf) |>.symm
      obtain rfl : fn = Tryz.f9 := (Option.some.inj (Tryz.func9.symm.trans hfn)).symm
      exact ⟨by kernel_rfl, fun j t ht => by
        rw [Tryz.params9] at ht
        have hm : t ∈ [3, 3] := by simpa using Array.mem_of_getElem? ht
        have hall : ([3, 3].all fun u => !Tryz.prog.wantsStandIn u) = true := by kernel_rfl
        exact (show Tryz.prog.wantsStandIn t = false by simpa using List.all_eq_true.1 hall t hm)⟩)
    (by kernel_rfl)
end Go.Proofs.YtophiadpafbahaaGreatDoor
