/- GraphBoth where there are not too many numbers. -/
import Derived.Test.YtbacphifmbjooaaGrF
import Derived.Test.YtbacphifmbjooaaGrS
namespace Go.Proofs.Ytbacphifmbjooaa
open Go.ChangeShapes Go.WideShapes Go.ChangeAt Go.RowKit

theorem reach_both {n : Nat} {L : List (List Int)} {F G : List Int} {E : Nat → Bool} (h : ∀ j, E j = true ↔ (j : Int) ∈ reachZ n L F ∨ (j : Int) ∈ reachZ n L G) : iz (those n E true) = reachZ n L (F ++ G) := by
  refine reachZ_of fun i hi => ?_
  rw [h i, mem_reachZ, mem_reachZ, Rch.app, Int.toNat_natCast]
  constructor
  · rintro (h | h)
    · exact .inl h.2
    · exact .inr h.2
  · rintro (h | h)
    · exact .inl ⟨inn_nat hi, h⟩
    · exact .inr ⟨inn_nat hi, h⟩
theorem reach_again (n : Nat) (L : List (List Int)) (F : List Int) : reachZ n L (reachZ n L F) = reachZ n L F := by
  have h : Right n L (reachZ n L F) (rchB n L F) := fun i hi => by
    rw [rchB_right n L F i hi]
    exact Rch.again.symm
  exact (reachZ_of h).symm
theorem reachI_nat {n : Nat} (hn : n ≤ 4096) (L : List (List Int)) (F : List Int) : reachI (n : Int) L F = reachZ n L F := by
  unfold reachI
  rw [show mayB (n : Int) = true from decide_eq_true (by omega)]
  rfl
/-- Marks out of both lists, up to here. -/
structure MkB (w : World) (n : Nat) (S : Int → Prop) (wr : World) : Prop where
  row : ∃ E : Nat → Bool, wr.rowIs w.heap.size 4 n (fun j => .bool (E j)) ∧ ∀ j, E j = true ↔ S (j : Int)
  base : Below w.heap.size w wr
theorem MkB.cell {w wr : World} {n q : Nat} {S : Int → Prop} (h : MkB w n S wr) (hq : q < n) : ∃ b, wr.cell? ⟨w.heap.size, q, none⟩ = some (.bool b) := by
  obtain ⟨E, h1, _⟩ := h.row
  exact ⟨E q, h1.cell hq⟩
theorem MkB.fz {w wr : World} {n q : Nat} {S : Int → Prop} (h : MkB w n S wr) : wr.frozen? ⟨w.heap.size, q, none⟩ = false := by
  obtain ⟨E, h1, _⟩ := h.row
  exact h1.frozen q
theorem MkB.set {w wr : World} {n q : Nat} {S T : Int → Prop} (h : MkB w n S wr) (hT : ∀ x, T x ↔ S x ∨ x = (q : Int)) : MkB w n T (wr.setCell ⟨w.heap.size, q, none⟩ (.bool true)) := by
  obtain ⟨⟨E, h1, h2⟩, hb⟩ := h
  refine ⟨⟨upd E q, (h1.set q _).congr fun j _ => (by unfold upd; split <;> rfl), fun j => ?_⟩, hb.setCell (Nat.le_refl _) _⟩
  rw [upd_at, h2 j, hT]
  constructor
  · rintro (h | h)
    · exact .inr (by rw [h])
    · exact .inl h
  · rintro (h | h)
    · exact .inr h
    · exact .inl (by omega)
theorem MkB.turn {w wr : World} {n : Nat} {S T : Int → Prop} (h : MkB w n S wr) (hT : ∀ x, T x ↔ S x) : MkB w n T wr := by
  obtain ⟨⟨E, h1, h2⟩, hb⟩ := h
  exact ⟨⟨E, h1, fun j => (h2 j).trans (hT j).symm⟩, hb⟩
set_option maxHeartbeats 8000000 in
set_option maxRecDepth 100000 in
theorem graphboth_go (v : Int) (n : Nat) (A : Option Addr) (L : List (List Int)) (c : Nat) (BA : Option Addr) (a : List Int) (ca : Nat) (BB : Option Addr) (b : List Int) (cb : Nat) (w : World) (hp : Calls Try.prog 19 #[.int .i64 v, .int .i64 40] w fun e w' => e = .returned (.int .i64 (n : Int)) ∧ w = w') (hn : n < 40) (hf : fewB (n : Int) L = true) (hl : L.length ≤ 5864062014805) (hL : LL w A L)
    (ha5 : a.length ≤ 50) (hb5 : b.length ≤ 50) (ha : Is w BA a) (hanil : BA = none → ca = 0) (hb : Is w BB b) (hbnil : BB = none → cb = 0) :
    Calls Try.prog 6 #[.int .i64 v, .slice A L.length c, .slice BA a.length ca, .slice BB b.length cb] w fun e w' => e = .returned (.bool true) ∧ Below w.heap.size w w' := by
  obtain ⟨i0, hi, hz0, hz1, hz2⟩ := info_parts info_int
  have cf := few_any (n : Int) A L c w hL
  rw [hf] at cf
  have cl := fun (w1 : World) (h : LL w1 A L) => lists_any A L c w1 h hl
  have cr : ∀ (w1 : World) (A1 : Option Addr) (c1 : Nat) (A2 : Option Addr) (F : List Int) (c2 : Nat), L.length ≤ c1 → LL w1 A1 L → F.length ≤ 200 → Is w1 A2 F → Calls Try.prog 16 #[.int .i64 (n : Int), .slice A1 L.length c1, .slice A2 F.length c2] w1 (OneEnd w1 (reachZ n L F)) := fun w1 A1 c1 A2 F c2 hlc h hF h2 => by
    have := reach_any (n : Int) A1 L c1 A2 F c2 w1 hlc h (by omega) h2
    rwa [reachI_nat (by omega)] at this
  have ci := fun (w1 : World) (h : Is w1 BA a) => ints_any BA a ca w1 (by omega) h hanil
  have hmk := mk_bools n (by omega)
  have ha5z : ¬ (50 : Int) < (a.length : Int) := by omega
  have hb5z : ¬ (50 : Int) < (b.length : Int) := by omega
  have HL := Lib.hid hL
  have HAa := Lib.hid ha
  have HBb := Lib.hid hb
  have caw := awake_any
  obtain ⟨X, hX⟩ : ∃ X, X = reachZ n L a := ⟨_, rfl⟩
  obtain ⟨Y, hY⟩ : ∃ Y, Y = reachZ n L b := ⟨_, rfl⟩
  obtain ⟨Z, hZ⟩ : ∃ Z, Z = reachZ n L (a ++ b) := ⟨_, rfl⟩
  have hXl := reach_len n L a
  have hYl := reach_len n L b
  have hZl := reach_len n L (a ++ b)
  have cra := fun w1 A1 c1 (h1 : L.length ≤ c1) h2 h3 => cr w1 A1 c1 BA a ca h1 h2 (by omega) h3
  have crb := fun w1 A1 c1 (h1 : L.length ≤ c1) h2 h3 => cr w1 A1 c1 BB b cb h1 h2 (by omega) h3
  have crc := fun w1 A1 c1 A2 c2 (h1 : L.length ≤ c1) h2 h3 => cr w1 A1 c1 A2 (a ++ b) c2 h1 h2 (by rw [List.length_append]; omega) h3
  have crz := fun w1 A1 c1 A2 c2 (h1 : L.length ≤ c1) h2 h3 => cr w1 A1 c1 A2 Z c2 h1 h2 (by rw [hZ]; omega) h3
  rw [show reachZ n L Z = Z by rw [hZ]; exact reach_again n L _] at crz
  rw [← hX] at hXl cra
  rw [← hY] at hYl crb
  rw [← hZ] at hZl crc
  have HX := Lib.hid hX
  have HY := Lib.hid hY
  have HZ := Lib.hid hZ
  have czz := fun (w : World) (A B : Option Addr) (ca cb : Nat) (hA : Is w A Z) (hB : Is w B Z) => same_any A B Z Z ca cb w (by omega) hA hB
  rw [decide_eq_true (rfl : Z = Z)] at czz
  clear hL ha hb hX hY hZ hf cr
  go_enter Try.func6, Try.ntmps6
  go_wp2_with fail
  (with_reducible refine hp.mono ?_)
  rintro e w0 ⟨rfl, rfl⟩
  clear hp
  go_wp2_with fail
  (with_reducible refine cf.mono ?_)
  rintro e w0 ⟨rfl, rfl⟩
  clear cf
  go_wp2_with fail
  (with_reducible refine (cl w0 HL.out).mono ?_)
  rintro e w1 ⟨A1, c1, rfl, hlc1, -, hL1, hb1⟩
  have HB1 := Lib.hid hb1
  have cra' := cra w1 A1 c1 hlc1 hL1 (HAa.out.below hb1)
  clear hL1 hb1 cra
  go_wp2_with fail
  (with_reducible refine cra'.mono ?_)
  rintro e w2 ⟨AX, cX, rfl, -, -, hx, hb2⟩
  have HB2 := Lib.hid (HB1.out.trans (hb2.mono HB1.out.size))
  have HXs := Lib.hid hx
  have cl2 := cl w2 (HL.out.below HB2.out)
  clear cra' hx hb2
  go_wp2_with fail
  (with_reducible refine cl2.mono ?_)
  rintro e w3 ⟨A3, c3, rfl, hlc3, -, hL3, hb3⟩
  have HB3 := Lib.hid (HB2.out.trans (hb3.mono HB2.out.size))
  have HX3 := Lib.hid (HXs.out.below hb3)
  have crb' := crb w3 A3 c3 hlc3 hL3 (HBb.out.below HB3.out)
  clear cl2 hL3 hb3 crb HXs
  go_wp2_with fail
  (with_reducible refine crb'.mono ?_)
  rintro e w4 ⟨AY, cY, rfl, -, -, hy, hb4⟩
  have HB4 := Lib.hid (HB3.out.trans (hb4.mono HB3.out.size))
  have HX4 := Lib.hid (HX3.out.below hb4)
  have HYs := Lib.hid hy
  have cl4 := cl w4 (HL.out.below HB4.out)
  clear crb' hy hb4 HX3
  go_wp2_with fail
  (with_reducible refine cl4.mono ?_)
  rintro e w5 ⟨A5, c5, rfl, hlc5, -, hL5, hb5⟩
  have HB5 := Lib.hid (HB4.out.trans (hb5.mono HB4.out.size))
  have HX5 := Lib.hid (HX4.out.below hb5)
  have HY5 := Lib.hid (HYs.out.below hb5)
  have HL5 := Lib.hid hL5
  have ci5 := ci w5 (HAa.out.below HB5.out)
  clear cl4 hL5 hb5 ci HX4 HYs
  go_wp2_with fail
  (with_reducible refine ci5.mono ?_)
  rintro e w6 ⟨A6, c6, rfl, -, -, -, hown6, hb6⟩
  have HB6 := Lib.hid (HB5.out.trans (hb6.mono HB5.out.size))
  have HOW := Lib.hid hown6
  have HB56 := Lib.hid hb6
  have hs56 := hb6.size
  have hbm := HBb.out.below HB6.out
  have HAB := Lib.hid hbm
  clear ci5 hown6 hb6 hbm
  cases BB with
  | some ad =>
    have hc := els_cells HAB.out
    have ho : ∀ u ∈ zs b, u.oneCell' = true := fun u hu => by unfold zs at hu; obtain ⟨x, _, rfl⟩ := List.mem_map.1 hu; rfl
    have HC := Lib.hid hc
    have HO := Lib.hid ho
    clear hc ho
    go_wp2_with (at_builtin; refine wpList_append_own _ rfl _ _ _ rfl w5.heap.size 3 i0 _ 1 8 Try.underlying26 hi hz0 hz1 hz2 rfl (by omega) (.slice A6 a.length c6) a.length (zs a) rfl HOW.out ad b.length cb (zs b) rfl (by unfold zs; rw [List.length_map]; omega) HC.out HO.out (by unfold maxLen; omega) (by omega) hs56 ?_; intro v7 w7 hown7 hg7 _)
    have HB67 := Lib.hid (below_own HOW.out hg7 hs56)
    have HO7 : Hid (OwnZ w7 w5.heap.size v7 (a ++ b)) := Lib.hid (by
      have e : zs a ++ zs b = zs (a ++ b) := by unfold zs; rw [List.map_append]
      unfold OwnZ
      rw [List.length_append, ← e]
      exact hown7)
    clear hown7 hg7
    obtain ⟨A7, c7, rfl, -, h7, -⟩ := els_own (d := (0 : Int)) HO7.out
    have HB57 := Lib.hid (HB56.out.trans HB67.out)
    have HB7 := Lib.hid (HB5.out.trans (HB57.out.mono HB5.out.size))
    have HX7 := Lib.hid (HX5.out.below HB57.out)
    have HY7 := Lib.hid (HY5.out.below HB57.out)
    have crc' := crc w7 A5 c5 A7 c7 hlc5 (HL5.out.below HB57.out) h7
    clear HB57 HB56 HB67 HX5 HY5 HL5 h7 crc HO7 HOW HAB
    go_wp2_with fail
    (with_reducible refine crc'.mono ?_)
    rintro e w8 ⟨A8, c8, rfl, -, -, h8, hb8⟩
    have HB8 := Lib.hid (HB7.out.trans (hb8.mono HB7.out.size))
    have HX8 := Lib.hid (HX7.out.below hb8)
    have HY8 := Lib.hid (HY7.out.below hb8)
    have HZ8 := Lib.hid h8
    have H0 : Hid (MkB w8 n (fun x => (0 < 0 ∧ x ∈ X) ∨ (1 < 0 ∧ x ∈ Y)) (w8.alloc (.cells (madeCells #[.bool false] n) 4))) := Lib.hid ⟨⟨fun _ => false, World.rowIs_made w8 _ n _, fun j => by simp⟩, below_alloc _ _⟩
    clear crc' h8 hb8 HX7 HY7
    go_wp2_with fail
    go_loopg [13] (2) (fun q s13 wr => ∃ k : Nat, k + q = 2 ∧ s13 = .int .i64 (k : Int) ∧ Hid (MkB w8 n (fun x => (0 < k ∧ x ∈ X) ∨ (1 < k ∧ x ∈ Y)) wr))
    case atStart => exact ⟨0, by omega, rfl, H0⟩
    case round =>
      clear H0 hmk
      obtain ⟨k, hkq, rfl, HM⟩ := hrel
      have HKQ := Lib.hid hkq
      obtain ⟨G, hG⟩ : ∃ G, G = gk := ⟨_, rfl⟩
      subst hG
      rcases (show k = 0 ∨ k = 1 ∨ k = 2 by omega) with rfl | rfl | rfl
      · have HM0 : Hid (MkB w8 n (fun x => x ∈ X.take 0) wr) := Lib.hid (HM.out.turn fun x => by simp)
        clear hkq
        go_wp2_with fail
        go_loopg [15] (X.length) (fun q s15 wx => ∃ i : Nat, i + q = X.length ∧ s15 = .int .i64 (i : Int) ∧ Hid (MkB w8 n (fun x => x ∈ X.take i) wx))
        case atStart => exact ⟨0, by omega, rfl, HM0⟩
        case round =>
          clear HM0 HM
          obtain ⟨i, hiq, rfl, HM⟩ := hrel
          have HIQ := Lib.hid hiq
          by_cases hil : i < X.length
          · have hiz : (i : Int) < (X.length : Int) := by omega
            obtain ⟨b5, o5, rfl, hc⟩ := is_at (HX8.out.below HM.out.base) hil
            have hmem := List.getElem_mem hil
            have HTK := Lib.hid (List.take_succ_eq_append_getElem hil)
            generalize X[i] = x at *
            rw [HX.out, mem_reachZ] at hmem
            obtain ⟨q, rfl⟩ : ∃ q : Nat, x = (q : Int) := ⟨x.toNat, (inn_lt hmem.1).2.symm⟩
            have hq : q < n := by have := (inn_lt hmem.1).1; simpa using this
            have hq0 : ¬ (q : Int) < 0 := by omega
            have hqn : (q : Int) < (n : Int) := by omega
            obtain ⟨bq, hcq⟩ := HM.out.cell hq
            have hfz := HM.out.fz (q := q)
            have HM2 : Hid (MkB w8 n (fun x => x ∈ X.take (i + 1)) (wr.setCell ⟨w8.heap.size, q, none⟩ (.bool true))) := Lib.hid (HM.out.set fun x => by
              rw [HTK.out, List.mem_append, List.mem_singleton]
              skip)
            clear hiq hmem
            go_wp2_with fail
            go_roundg (X.length - (i + 1))
            case measure => have := HIQ.out; omega
            case rel => exact ⟨i + 1, by have := HIQ.out; omega, by go_num, HM2⟩
          · have hiz : ¬ (i : Int) < (X.length : Int) := by omega
            have hM := HM.out
            rw [List.take_of_length_le (by omega)] at hM
            have HM2 := Lib.hid hM
            clear hiq hM HM
            go_wp2_with fail
            go_roundg (1)
            case measure => have := HKQ.out; omega
            case rel => exact ⟨1, rfl, rfl, Lib.hid (HM2.out.turn fun x => by simp)⟩
      · have HM0 : Hid (MkB w8 n (fun x => x ∈ X ∨ x ∈ Y.take 0) wr) := Lib.hid (HM.out.turn fun x => by simp)
        clear hkq
        go_wp2_with fail
        go_loopg [15] (Y.length) (fun q s15 wx => ∃ i : Nat, i + q = Y.length ∧ s15 = .int .i64 (i : Int) ∧ Hid (MkB w8 n (fun x => x ∈ X ∨ x ∈ Y.take i) wx))
        case atStart => exact ⟨0, by omega, rfl, HM0⟩
        case round =>
          clear HM0 HM
          obtain ⟨i, hiq, rfl, HM⟩ := hrel
          have HIQ := Lib.hid hiq
          by_cases hil : i < Y.length
          · have hiz : (i : Int) < (Y.length : Int) := by omega
            obtain ⟨b5, o5, rfl, hc⟩ := is_at (HY8.out.below HM.out.base) hil
            have hmem := List.getElem_mem hil
            have HTK := Lib.hid (List.take_succ_eq_append_getElem hil)
            generalize Y[i] = x at *
            rw [HY.out, mem_reachZ] at hmem
            obtain ⟨q, rfl⟩ : ∃ q : Nat, x = (q : Int) := ⟨x.toNat, (inn_lt hmem.1).2.symm⟩
            have hq : q < n := by have := (inn_lt hmem.1).1; simpa using this
            have hq0 : ¬ (q : Int) < 0 := by omega
            have hqn : (q : Int) < (n : Int) := by omega
            obtain ⟨bq, hcq⟩ := HM.out.cell hq
            have hfz := HM.out.fz (q := q)
            have HM2 : Hid (MkB w8 n (fun x => x ∈ X ∨ x ∈ Y.take (i + 1)) (wr.setCell ⟨w8.heap.size, q, none⟩ (.bool true))) := Lib.hid (HM.out.set fun x => by
              rw [HTK.out, List.mem_append, List.mem_singleton]
              exact or_assoc.symm)
            clear hiq hmem
            go_wp2_with fail
            go_roundg (Y.length - (i + 1))
            case measure => have := HIQ.out; omega
            case rel => exact ⟨i + 1, by have := HIQ.out; omega, by go_num, HM2⟩
          · have hiz : ¬ (i : Int) < (Y.length : Int) := by omega
            have hM := HM.out
            rw [List.take_of_length_le (by omega)] at hM
            have HM2 := Lib.hid hM
            clear hiq hM HM
            go_wp2_with fail
            go_roundg (0)
            case measure => have := HKQ.out; omega
            case rel => exact ⟨2, rfl, rfl, Lib.hid (HM2.out.turn fun x => by simp)⟩
      · obtain ⟨E, hrE, hE⟩ := HM.out.row
        have HRE := Lib.hid hrE
        have HZE := Lib.hid (show iz (those n E true) = Z by rw [HZ.out]; exact reach_both fun j => by rw [hE j, ← HX.out, ← HY.out]; simp)
        have HBM := Lib.hid (HB8.out.trans (HM.out.base.mono HB8.out.size))
        have HZM := Lib.hid (HZ8.out.below HM.out.base)
        obtain ⟨W2, hW2⟩ : ∃ W2, W2 = wr := ⟨_, rfl⟩
        subst hW2
        clear hkq hrE hE HM HX8 HY8 HZ8 HB8 HKQ
        go_wp2_with fail
        go_loopg [16, 17] (n) (fun q s16 s17 wv => ∃ k : Nat, k + q = n ∧ s17 = .int .i64 (k : Int) ∧ Hid (OwnZ wv W2.heap.size s16 (iz (those k E true))) ∧ Hid (Below W2.heap.size W2 wv))
        case atStart => exact ⟨0, by omega, rfl, Lib.hid (World.ownsRow_nil _ _ _ _), Lib.hid (Below.refl _ _)⟩
        case round =>
          obtain ⟨k, hkm, rfl, HO, HW⟩ := hrel
          have HKM := Lib.hid hkm
          by_cases hk : k < n
          · have hkz : (k : Int) < (n : Int) := by omega
            have cd := (row_later HRE.out HW.out).cell hk
            have hle : (iz (those k E true)).length ≤ k := by rw [iz_len]; exact those_le E true k
            have hsz := HW.out.size
            clear hkm
            cases hd : E k with
            | true =>
              have HS := Lib.hid (show those (k + 1) E true = those k E true ++ [k] by rw [those_succ, hd]; rfl)
              rw [hd] at cd
              clear hd
              go_wp2_with (at_builtin; refine wpList_append_own _ rfl _ _ 26 rfl W2.heap.size 3 i0 (.int .i64 0) 1 8 Try.underlying26 hi hz0 hz1 hz2 rfl (by decide) _ _ _ rfl (HO.out.alloc _) ⟨wr.heap.size, 0, none⟩ 1 1 [.int .i64 (k : Int)] rfl rfl (one_cell _ _ _) ?c2 ?c3 ?c4 ?c5 ?_)
              case c2 => first | rfl | (intro u hu; simp at hu; subst hu; rfl)
              case c3 => unfold maxLen; omega
              case c4 => omega
              case c5 => first | omega | (rw [alloc_size]; omega)
              intro v' w9 hown' hgrow' _
              have HB2 := Lib.hid ((HW.out.alloc hsz _).trans (below_own (HO.out.alloc _) hgrow' (by rw [alloc_size]; omega)))
              have HO2 : Hid (OwnZ w9 W2.heap.size v' (iz (those (k + 1) E true))) := Lib.hid (by
                rw [HS.out, ← iz_snoc]
                unfold OwnZ
                rw [List.length_append, List.length_singleton, ← zs_snoc]
                exact hown')
              clear hown' hgrow'
              go_wp2_with fail
              go_roundg (n - (k + 1))
              case measure => have := HKM.out; omega
              case rel => exact ⟨k + 1, by have := HKM.out; omega, by go_num, HO2, HB2⟩
            | false =>
              have HS := Lib.hid (show those (k + 1) E true = those k E true by rw [those_succ, hd]; simp)
              rw [hd] at cd
              clear hd
              go_wp2_with fail
              go_roundg (n - (k + 1))
              case measure => have := HKM.out; omega
              case rel => exact ⟨k + 1, by have := HKM.out; omega, by go_num, by rw [HS.out]; exact HO, HW⟩
          · have hkz : ¬ (k : Int) < (n : Int) := by omega
            obtain rfl : k = n := by omega
            have hO := HO.out
            rw [HZE.out] at hO
            obtain ⟨A3', c3', rfl, h1, h2, h3⟩ := els_own (d := (0 : Int)) hO
            have HBW := Lib.hid (HBM.out.trans (HW.out.mono HBM.out.size))
            have HZW := Lib.hid (HZM.out.below HW.out)
            have cz := czz wr A8 A3' c8 c3' HZW.out h2
            clear hkm HO hO h1 h2 h3
            go_wp2_with fail
            (with_reducible refine cz.mono ?_)
            rintro e w10 ⟨rfl, hb10⟩
            have HB10 := Lib.hid (HBW.out.trans (hb10.mono HBW.out.size))
            have HZ10 := Lib.hid (HZW.out.below hb10)
            have cl10 := cl w10 (HL.out.below HB10.out)
            clear cz hb10 HZW
            go_wp2_with fail
            (with_reducible refine cl10.mono ?_)
            rintro e w11 ⟨A11, c11, rfl, hlc11, -, hL11, hb11⟩
            have HB11 := Lib.hid (HB10.out.trans (hb11.mono HB10.out.size))
            have HZ11 := Lib.hid (HZ10.out.below hb11)
            have crz' := crz w11 A11 c11 A8 c8 hlc11 hL11 HZ11.out
            clear cl10 hb11 hL11 crz
            go_wp2_with fail
            (with_reducible refine crz'.mono ?_)
            rintro e w12 ⟨A12, c12, rfl, -, -, h12, hb12⟩
            have HB12 := Lib.hid (HB11.out.trans (hb12.mono HB11.out.size))
            have cz2 := czz w12 A12 A8 c12 c8 h12 (HZ11.out.below hb12)
            clear crz' h12 hb12 czz
            go_wp2_with fail
            (with_reducible refine cz2.mono ?_)
            rintro e w13 ⟨rfl, hb13⟩
            have HB13 := Lib.hid (HB12.out.trans (hb13.mono HB12.out.size))
            clear cz2 hb13
            go_wp2_with fail
            (with_reducible refine (caw w13).mono ?_)
            rintro e w14 ⟨rfl, hb14⟩
            have HB14 := Lib.hid (HB13.out.trans (hb14.mono HB13.out.size))
            clear hb14
            go_wp2_with fail
            go_ret
            exact ⟨rfl, HB14.out⟩
  | none =>
    have hcb : cb = 0 := hbnil rfl
    subst hcb
    have hb0 : b = [] := by
      cases b with
      | nil => rfl
      | cons c b => obtain ⟨b', off, e, _⟩ := HAB.out (by simp); cases e
    subst hb0
    go_wp2_with (at_builtin; refine wpList_append_own_none rfl _ _ _ rfl w5.heap.size 3 i0 1 Try.underlying26 hi (.slice A6 a.length c6) a.length (zs a) rfl HOW.out rfl ?_)
    simp only [List.append_nil] at crc hZl HZ
    have HB67 := Lib.hid (Below.refl w5.heap.size w6)
    obtain ⟨A7, hA7⟩ : ∃ A7, A7 = A6 := ⟨_, rfl⟩
    subst hA7
    obtain ⟨c7, hc7⟩ : ∃ c7, c7 = c6 := ⟨_, rfl⟩
    subst hc7
    obtain ⟨w7, hw7⟩ : ∃ w7, w7 = w6 := ⟨_, rfl⟩
    subst hw7
    have HO7 := HOW
    obtain ⟨A7', c7', hv7, -, h7, -⟩ := els_own (d := (0 : Int)) HOW.out
    injection hv7 with hv1 hv2 hv3
    subst hv1
    subst hv3
    clear hv2
    have HB57 := Lib.hid (HB56.out.trans HB67.out)
    have HB7 := Lib.hid (HB5.out.trans (HB57.out.mono HB5.out.size))
    have HX7 := Lib.hid (HX5.out.below HB57.out)
    have HY7 := Lib.hid (HY5.out.below HB57.out)
    have crc' := crc w7 A5 c5 A7 c7 hlc5 (HL5.out.below HB57.out) h7
    clear HB57 HB56 HB67 HX5 HY5 HL5 h7 crc HO7 HOW HAB
    go_wp2_with fail
    (with_reducible refine crc'.mono ?_)
    rintro e w8 ⟨A8, c8, rfl, -, -, h8, hb8⟩
    have HB8 := Lib.hid (HB7.out.trans (hb8.mono HB7.out.size))
    have HX8 := Lib.hid (HX7.out.below hb8)
    have HY8 := Lib.hid (HY7.out.below hb8)
    have HZ8 := Lib.hid h8
    have H0 : Hid (MkB w8 n (fun x => (0 < 0 ∧ x ∈ X) ∨ (1 < 0 ∧ x ∈ Y)) (w8.alloc (.cells (madeCells #[.bool false] n) 4))) := Lib.hid ⟨⟨fun _ => false, World.rowIs_made w8 _ n _, fun j => by simp⟩, below_alloc _ _⟩
    clear crc' h8 hb8 HX7 HY7
    go_wp2_with fail
    go_loopg [13] (2) (fun q s13 wr => ∃ k : Nat, k + q = 2 ∧ s13 = .int .i64 (k : Int) ∧ Hid (MkB w8 n (fun x => (0 < k ∧ x ∈ X) ∨ (1 < k ∧ x ∈ Y)) wr))
    case atStart => exact ⟨0, by omega, rfl, H0⟩
    case round =>
      clear H0 hmk
      obtain ⟨k, hkq, rfl, HM⟩ := hrel
      have HKQ := Lib.hid hkq
      obtain ⟨G, hG⟩ : ∃ G, G = gk := ⟨_, rfl⟩
      subst hG
      rcases (show k = 0 ∨ k = 1 ∨ k = 2 by omega) with rfl | rfl | rfl
      · have HM0 : Hid (MkB w8 n (fun x => x ∈ X.take 0) wr) := Lib.hid (HM.out.turn fun x => by simp)
        clear hkq
        go_wp2_with fail
        go_loopg [15] (X.length) (fun q s15 wx => ∃ i : Nat, i + q = X.length ∧ s15 = .int .i64 (i : Int) ∧ Hid (MkB w8 n (fun x => x ∈ X.take i) wx))
        case atStart => exact ⟨0, by omega, rfl, HM0⟩
        case round =>
          clear HM0 HM
          obtain ⟨i, hiq, rfl, HM⟩ := hrel
          have HIQ := Lib.hid hiq
          by_cases hil : i < X.length
          · have hiz : (i : Int) < (X.length : Int) := by omega
            obtain ⟨b5, o5, rfl, hc⟩ := is_at (HX8.out.below HM.out.base) hil
            have hmem := List.getElem_mem hil
            have HTK := Lib.hid (List.take_succ_eq_append_getElem hil)
            generalize X[i] = x at *
            rw [HX.out, mem_reachZ] at hmem
            obtain ⟨q, rfl⟩ : ∃ q : Nat, x = (q : Int) := ⟨x.toNat, (inn_lt hmem.1).2.symm⟩
            have hq : q < n := by have := (inn_lt hmem.1).1; simpa using this
            have hq0 : ¬ (q : Int) < 0 := by omega
            have hqn : (q : Int) < (n : Int) := by omega
            obtain ⟨bq, hcq⟩ := HM.out.cell hq
            have hfz := HM.out.fz (q := q)
            have HM2 : Hid (MkB w8 n (fun x => x ∈ X.take (i + 1)) (wr.setCell ⟨w8.heap.size, q, none⟩ (.bool true))) := Lib.hid (HM.out.set fun x => by
              rw [HTK.out, List.mem_append, List.mem_singleton]
              skip)
            clear hiq hmem
            go_wp2_with fail
            go_roundg (X.length - (i + 1))
            case measure => have := HIQ.out; omega
            case rel => exact ⟨i + 1, by have := HIQ.out; omega, by go_num, HM2⟩
          · have hiz : ¬ (i : Int) < (X.length : Int) := by omega
            have hM := HM.out
            rw [List.take_of_length_le (by omega)] at hM
            have HM2 := Lib.hid hM
            clear hiq hM HM
            go_wp2_with fail
            go_roundg (1)
            case measure => have := HKQ.out; omega
            case rel => exact ⟨1, rfl, rfl, Lib.hid (HM2.out.turn fun x => by simp)⟩
      · have HM0 : Hid (MkB w8 n (fun x => x ∈ X ∨ x ∈ Y.take 0) wr) := Lib.hid (HM.out.turn fun x => by simp)
        clear hkq
        go_wp2_with fail
        go_loopg [15] (Y.length) (fun q s15 wx => ∃ i : Nat, i + q = Y.length ∧ s15 = .int .i64 (i : Int) ∧ Hid (MkB w8 n (fun x => x ∈ X ∨ x ∈ Y.take i) wx))
        case atStart => exact ⟨0, by omega, rfl, HM0⟩
        case round =>
          clear HM0 HM
          obtain ⟨i, hiq, rfl, HM⟩ := hrel
          have HIQ := Lib.hid hiq
          by_cases hil : i < Y.length
          · have hiz : (i : Int) < (Y.length : Int) := by omega
            obtain ⟨b5, o5, rfl, hc⟩ := is_at (HY8.out.below HM.out.base) hil
            have hmem := List.getElem_mem hil
            have HTK := Lib.hid (List.take_succ_eq_append_getElem hil)
            generalize Y[i] = x at *
            rw [HY.out, mem_reachZ] at hmem
            obtain ⟨q, rfl⟩ : ∃ q : Nat, x = (q : Int) := ⟨x.toNat, (inn_lt hmem.1).2.symm⟩
            have hq : q < n := by have := (inn_lt hmem.1).1; simpa using this
            have hq0 : ¬ (q : Int) < 0 := by omega
            have hqn : (q : Int) < (n : Int) := by omega
            obtain ⟨bq, hcq⟩ := HM.out.cell hq
            have hfz := HM.out.fz (q := q)
            have HM2 : Hid (MkB w8 n (fun x => x ∈ X ∨ x ∈ Y.take (i + 1)) (wr.setCell ⟨w8.heap.size, q, none⟩ (.bool true))) := Lib.hid (HM.out.set fun x => by
              rw [HTK.out, List.mem_append, List.mem_singleton]
              exact or_assoc.symm)
            clear hiq hmem
            go_wp2_with fail
            go_roundg (Y.length - (i + 1))
            case measure => have := HIQ.out; omega
            case rel => exact ⟨i + 1, by have := HIQ.out; omega, by go_num, HM2⟩
          · have hiz : ¬ (i : Int) < (Y.length : Int) := by omega
            have hM := HM.out
            rw [List.take_of_length_le (by omega)] at hM
            have HM2 := Lib.hid hM
            clear hiq hM HM
            go_wp2_with fail
            go_roundg (0)
            case measure => have := HKQ.out; omega
            case rel => exact ⟨2, rfl, rfl, Lib.hid (HM2.out.turn fun x => by simp)⟩
      · obtain ⟨E, hrE, hE⟩ := HM.out.row
        have HRE := Lib.hid hrE
        have HZE := Lib.hid (show iz (those n E true) = Z by rw [HZ.out, ← List.append_nil a]; exact reach_both fun j => by rw [hE j, ← HX.out, ← HY.out]; simp)
        have HBM := Lib.hid (HB8.out.trans (HM.out.base.mono HB8.out.size))
        have HZM := Lib.hid (HZ8.out.below HM.out.base)
        obtain ⟨W2, hW2⟩ : ∃ W2, W2 = wr := ⟨_, rfl⟩
        subst hW2
        clear hkq hrE hE HM HX8 HY8 HZ8 HB8 HKQ
        go_wp2_with fail
        go_loopg [16, 17] (n) (fun q s16 s17 wv => ∃ k : Nat, k + q = n ∧ s17 = .int .i64 (k : Int) ∧ Hid (OwnZ wv W2.heap.size s16 (iz (those k E true))) ∧ Hid (Below W2.heap.size W2 wv))
        case atStart => exact ⟨0, by omega, rfl, Lib.hid (World.ownsRow_nil _ _ _ _), Lib.hid (Below.refl _ _)⟩
        case round =>
          obtain ⟨k, hkm, rfl, HO, HW⟩ := hrel
          have HKM := Lib.hid hkm
          by_cases hk : k < n
          · have hkz : (k : Int) < (n : Int) := by omega
            have cd := (row_later HRE.out HW.out).cell hk
            have hle : (iz (those k E true)).length ≤ k := by rw [iz_len]; exact those_le E true k
            have hsz := HW.out.size
            clear hkm
            cases hd : E k with
            | true =>
              have HS := Lib.hid (show those (k + 1) E true = those k E true ++ [k] by rw [those_succ, hd]; rfl)
              rw [hd] at cd
              clear hd
              go_wp2_with (at_builtin; refine wpList_append_own _ rfl _ _ 26 rfl W2.heap.size 3 i0 (.int .i64 0) 1 8 Try.underlying26 hi hz0 hz1 hz2 rfl (by decide) _ _ _ rfl (HO.out.alloc _) ⟨wr.heap.size, 0, none⟩ 1 1 [.int .i64 (k : Int)] rfl rfl (one_cell _ _ _) ?c2 ?c3 ?c4 ?c5 ?_)
              case c2 => first | rfl | (intro u hu; simp at hu; subst hu; rfl)
              case c3 => unfold maxLen; omega
              case c4 => omega
              case c5 => first | omega | (rw [alloc_size]; omega)
              intro v' w9 hown' hgrow' _
              have HB2 := Lib.hid ((HW.out.alloc hsz _).trans (below_own (HO.out.alloc _) hgrow' (by rw [alloc_size]; omega)))
              have HO2 : Hid (OwnZ w9 W2.heap.size v' (iz (those (k + 1) E true))) := Lib.hid (by
                rw [HS.out, ← iz_snoc]
                unfold OwnZ
                rw [List.length_append, List.length_singleton, ← zs_snoc]
                exact hown')
              clear hown' hgrow'
              go_wp2_with fail
              go_roundg (n - (k + 1))
              case measure => have := HKM.out; omega
              case rel => exact ⟨k + 1, by have := HKM.out; omega, by go_num, HO2, HB2⟩
            | false =>
              have HS := Lib.hid (show those (k + 1) E true = those k E true by rw [those_succ, hd]; simp)
              rw [hd] at cd
              clear hd
              go_wp2_with fail
              go_roundg (n - (k + 1))
              case measure => have := HKM.out; omega
              case rel => exact ⟨k + 1, by have := HKM.out; omega, by go_num, by rw [HS.out]; exact HO, HW⟩
          · have hkz : ¬ (k : Int) < (n : Int) := by omega
            obtain rfl : k = n := by omega
            have hO := HO.out
            rw [HZE.out] at hO
            obtain ⟨A3', c3', rfl, h1, h2, h3⟩ := els_own (d := (0 : Int)) hO
            have HBW := Lib.hid (HBM.out.trans (HW.out.mono HBM.out.size))
            have HZW := Lib.hid (HZM.out.below HW.out)
            have cz := czz wr A8 A3' c8 c3' HZW.out h2
            clear hkm HO hO h1 h2 h3
            go_wp2_with fail
            (with_reducible refine cz.mono ?_)
            rintro e w10 ⟨rfl, hb10⟩
            have HB10 := Lib.hid (HBW.out.trans (hb10.mono HBW.out.size))
            have HZ10 := Lib.hid (HZW.out.below hb10)
            have cl10 := cl w10 (HL.out.below HB10.out)
            clear cz hb10 HZW
            go_wp2_with fail
            (with_reducible refine cl10.mono ?_)
            rintro e w11 ⟨A11, c11, rfl, hlc11, -, hL11, hb11⟩
            have HB11 := Lib.hid (HB10.out.trans (hb11.mono HB10.out.size))
            have HZ11 := Lib.hid (HZ10.out.below hb11)
            have crz' := crz w11 A11 c11 A8 c8 hlc11 hL11 HZ11.out
            clear cl10 hb11 hL11 crz
            go_wp2_with fail
            (with_reducible refine crz'.mono ?_)
            rintro e w12 ⟨A12, c12, rfl, -, -, h12, hb12⟩
            have HB12 := Lib.hid (HB11.out.trans (hb12.mono HB11.out.size))
            have cz2 := czz w12 A12 A8 c12 c8 h12 (HZ11.out.below hb12)
            clear crz' h12 hb12 czz
            go_wp2_with fail
            (with_reducible refine cz2.mono ?_)
            rintro e w13 ⟨rfl, hb13⟩
            have HB13 := Lib.hid (HB12.out.trans (hb13.mono HB12.out.size))
            clear cz2 hb13
            go_wp2_with fail
            (with_reducible refine (caw w13).mono ?_)
            rintro e w14 ⟨rfl, hb14⟩
            have HB14 := Lib.hid (HB13.out.trans (hb14.mono HB13.out.size))
            clear hb14
            go_wp2_with fail
            go_ret
            exact ⟨rfl, HB14.out⟩
end Go.Proofs.Ytbacphifmbjooaa
