/- The contract of the document's own sign: the sign that begins at the next piece. -/
import Derived.Test.YtkbeemkmcnfiiaaGreatDoorHH
namespace Go.Proofs.YtkbeemkmcnfiiaaGreatDoor
open Go.RowKit

theorem LTok.yes2 {w w' : World} {g : Nat} {t : ByteArray} {P : List Pc} {ao : Option Addr} {cap k n here : Nat} {o : Option Fd} {f : Fd} {S : ByteArray} (h : LA w w' g t P ao cap n) (hh : (flat (P.take k)).length = here) (ho : o = some f) (hn : n = k + 1 + f.j) (hS : S = ⟨f.s.toArray⟩) :
    LTok w g t P ao cap k o (.returned (.tuple #[T4 f.k S f.n (here : Int), .bool true])) w' := by
  subst hS; exact LTok.yes h hh ho hn
theorem head_at {P : List Pc} {k : Nat} : (P.drop (k + 1)).head?.map (·.1) = some 61 ↔ ∃ y, P[k + 1]? = some y ∧ y.1 = 61 := by
  rw [List.head?_drop]
  cases P[k + 1]? with
  | none => simp
  | some y => simp
def sgL : List Nat := [43, 45, 42, 47, 37, 40, 41, 44, 61, 60, 62, 38, 124, 33]
theorem sg_all : ∀ i : Fin 14, sgL.getD i.val 0 < 128 ∧ (⟨#[43, 45, 42, 47, 37, 40, 41, 44, 61, 60, 62, 38, 124, 33]⟩ : ByteArray).extract i.val (i.val + 1) = ⟨#[UInt8.ofNat (sgL.getD i.val 0)]⟩ := by decide +kernel
theorem sg_get : ∀ i : Fin 14, ((⟨#[43, 45, 42, 47, 37, 40, 41, 44, 61, 60, 62, 38, 124, 33]⟩ : ByteArray)[i.val]'(by exact i.isLt)).toNat = sgL.getD i.val 0 := by decide +kernel
theorem sg_in (r : Nat) : isSign r = true ↔ ∃ i, i < 14 ∧ sgL.getD i 0 = r := by
  rw [isSign_iff]
  constructor
  · intro h
    have : r ∈ sgL := by unfold sgL; simp; omega
    obtain ⟨i, hi⟩ := List.getElem?_of_mem this
    have hl := (List.getElem?_eq_some_iff.1 hi).1
    exact ⟨i, hl, by rw [List.getD_eq_getElem?_getD, hi]; rfl⟩
  · rintro ⟨i, hi, rfl⟩
    have : ∀ i : Fin 14, (sgL.getD i.val 0 = 43 ∨ sgL.getD i.val 0 = 45 ∨ sgL.getD i.val 0 = 42 ∨ sgL.getD i.val 0 = 47 ∨ sgL.getD i.val 0 = 37 ∨ sgL.getD i.val 0 = 40 ∨ sgL.getD i.val 0 = 41 ∨ sgL.getD i.val 0 = 44 ∨ sgL.getD i.val 0 = 61 ∨ sgL.getD i.val 0 = 60 ∨ sgL.getD i.val 0 = 62 ∨ sgL.getD i.val 0 = 38 ∨ sgL.getD i.val 0 = 124 ∨ sgL.getD i.val 0 = 33) := by decide +kernel
    exact this ⟨i, hi⟩

set_option maxHeartbeats 4000000 in
set_option maxRecDepth 100000 in
theorem lsign_any (g : Nat) (t : ByteArray) (P : List Pc) (ao : Option Addr) (cap k : Nat) (x : Pc) (R : List Pc) (w : World) (h : LR w g t P ao cap k) (hP : pcs t.data.toList = P) (hl : t.size ≤ 1000) (hd : P.drop k = x :: R) :
    Calls Tryz.prog 70 #[.pointer (some ⟨g, 0, none⟩)] w (LTok w g t P ao cap k (signF x R)) := by
  have hPc : Pcd P := hP ▸ Pcd.of _
  have hs : (flat P).length = t.size := by rw [← hP, flat_pcs, size_list]
  have hPl : P.length ≤ 1000 := by have := flat_len hPc.fit; omega
  obtain ⟨hx, hRd, hk⟩ := at_drop hd
  obtain ⟨O, hO⟩ : ∃ O, signF x R = O := ⟨_, rfl⟩
  rw [hO]
  obtain ⟨here, hh⟩ : ∃ n : Nat, (flat (P.take k)).length = n := ⟨_, rfl⟩
  have HH := Lib.hid hh
  have HO := Lib.hid hO
  have HRD := Lib.hid hRd
  have hgl := h.lt
  have hA0 := (LA.start h).alloc (.cells #[.int .i64 0, .string ⟨#[]⟩, .int .i64 0, .int .i64 0] 71)
  have hr0 := four_new w (.int .i64 0) (.string ⟨#[]⟩) (.int .i64 0) (.int .i64 0) 71
  have hs0 : w.heap.size < (w.alloc (.cells #[.int .i64 0, .string ⟨#[]⟩, .int .i64 0, .int .i64 0] 71)).heap.size := hr0.lt
  obtain ⟨w0, hw0⟩ : ∃ w0, w.alloc (.cells #[.int .i64 0, .string ⟨#[]⟩, .int .i64 0, .int .i64 0] 71) = w0 := ⟨_, rfl⟩
  rw [hw0] at hA0 hr0 hs0
  have cH := lhere_any g t P ao cap k w0 hA0.1 hs
  rw [hh] at cH
  have HA := Lib.hid hA0
  have HX := Lib.hid hx
  clear h hA0 hs hh hO hRd hP hPc hd hx
  go_enter Tryz.func70, Tryz.ntmps70
  go_wp2_with fail
  refine cH.mono ?_
  rintro e w1 ⟨rfl, q, rfl⟩
  clear hw0
  have hA1 := HA.out.later (below_still ⟨q, rfl⟩)
  have hr1 := hr0.later (below_still ⟨q, rfl⟩)
  have hs1 : w.heap.size < (w0.drewN q).heap.size := hr1.lt
  generalize hw1 : w0.drewN q = w1 at *
  clear hw1 hr0 hs0 HA cH
  go_upto_region 2 with fail
  have hb2 := below_alloc w1 (.cells #[.int .i64 4, .string ⟨#[]⟩, .int .i64 0, .int .i64 (here : Int)] 71)
  have hA2 := hA1.later hb2
  have hF2 : Two4 w _ w1.heap.size w.heap.size (.int .i64 4) (.string ⟨#[]⟩) (.int .i64 0) (.int .i64 (here : Int)) := ⟨Nat.le_of_lt hs1, Nat.le_refl _, by omega, four_new w1 (.int .i64 4) (.string ⟨#[]⟩) (.int .i64 0) (.int .i64 (here : Int)) 71, hr1.later hb2⟩
  generalize hw2 : w1.alloc (.cells #[.int .i64 4, .string ⟨#[]⟩, .int .i64 0, .int .i64 (here : Int)] 71) = w2 at *
  generalize hbb : w1.heap.size = b at *
  clear hw2 hb2 hA1 hr1 hs1 hbb
  obtain ⟨c0, c1, c2, f2⟩ := hA2.1.cells
  obtain ⟨bp, rfl, p0, p1, p2, p3⟩ := hA2.1.piece HX.out
  have hkz : (k : Int) < (P.length : Int) := by omega
  have hgl2 : g < w2.heap.size := hA2.1.lt
  have hbl2 : bp < w2.heap.size := Lib.lt_of_cell p0
  go_region
  have hb3 := (below_alloc w2 (.cells #[.int .i64 ((flat (P.take k)).length : Int), .int .i64 (x.2.length : Int), .int .i32 (x.1 : Int), .bool (decide (bad x))] 91)).drew
  have hA3 := hA2.later hb3
  have hF3 := hF2.later hb3
  have hQ3 := (four_new w2 (.int .i64 ((flat (P.take k)).length : Int)) (.int .i64 (x.2.length : Int)) (.int .i32 (x.1 : Int)) (.bool (decide (bad x))) 91).later (below_still ⟨1, rfl⟩)
  rw [show ((w2.alloc (.cells #[.int .i64 ((flat (P.take k)).length : Int), .int .i64 (x.2.length : Int), .int .i32 (x.1 : Int), .bool (decide (bad x))] 91)).drewN 1) = (w2.alloc (.cells #[.int .i64 ((flat (P.take k)).length : Int), .int .i64 (x.2.length : Int), .int .i32 (x.1 : Int), .bool (decide (bad x))] 91)).drew from rfl] at hQ3
  have hbq : b ≠ w2.heap.size := by have := hF2.t.lt; omega
  have hgq : g ≠ w2.heap.size := by omega
  generalize hw3 : (w2.alloc (.cells #[.int .i64 ((flat (P.take k)).length : Int), .int .i64 (x.2.length : Int), .int .i32 (x.1 : Int), .bool (decide (bad x))] 91)).drew = w3 at *
  generalize hbqq : w2.heap.size = bq at *
  clear hw3 hb3 hA2 hF2 c0 c1 c2 f2 p0 p1 p2 p3 hgl2 hbl2 hbqq
  have HA := Lib.hid hA3
  have HF := Lib.hid hF3
  have HQ := Lib.hid hQ3
  obtain ⟨lo, lo2, hne, ⟨tl, t0, t1, t2, t3, tf0, tf1, tf2, tf3⟩, ⟨rl, z0, z1, z2, z3, f0, f1, f2', f3⟩⟩ := hF3
  obtain ⟨ql, q0, q1, q2, q3, qf0, qf1, qf2, qf3⟩ := hQ3
  obtain ⟨c0, c1, c2, f2⟩ := hA3.1.cells
  have hbg : b ≠ g := by omega
  clear hA3 q0 q1 qf0 qf1 qf2 qf3
  by_cases hb : bad x
  · rw [decide_eq_true hb] at q3
    have ho : O = none := by
      rw [← HO.out]; unfold signF; rw [if_neg (fun h => by have := isSign_lt h; have := hb.1; omega)]
    have HO2 := Lib.hid ho
    clear ho hb
    go_wp2_with fail
    exact bodyPost_ret (v := .tuple #[T4 4 ⟨#[]⟩ 0 here, .bool false]) (by simp [results, Tryz.results70, go_sem, z0, z1, z2, z3]) rfl (LTok.no (HA.out.fin lo2 _ _ _ _).2.1 _ _ _ HH.out HO2.out)
  · rw [decide_eq_false hb] at q3
    obtain ⟨r, hr⟩ : ∃ r, x.1 = r := ⟨_, rfl⟩
    have HXR := Lib.hid hr
    rw [hr] at q2
    by_cases h128 : 128 ≤ r
    · have ho : O = none := by
        rw [← HO.out]; unfold signF; rw [if_neg (fun h => by have := isSign_lt h; omega)]
      have HO2 := Lib.hid ho
      have hz : (128 : Int) ≤ (r : Int) := by omega
      clear ho hb hr h128
      go_wp2_with fail
      exact bodyPost_ret (v := .tuple #[T4 4 ⟨#[]⟩ 0 here, .bool false]) (by simp [results, Tryz.results70, go_sem, z0, z1, z2, z3]) rfl (LTok.no (HA.out.fin lo2 _ _ _ _).2.1 _ _ _ HH.out HO2.out)
    · have hz : ¬ (128 : Int) ≤ (r : Int) := by omega
      have hd1 : decide (128 ≤ r) = false := decide_eq_false (by omega)
      have ho := HO.out
      unfold signF at ho
      rw [hr] at ho
      have HO2 := Lib.hid ho
      clear ho hb hr h128 HO
      go_wp2_with fail
      go_loopg [7] (14) (fun n s7 wr => ∃ i : Nat, i + n = 14 ∧ s7 = .int .i64 (i : Int) ∧ (∃ q, wr = w3.drewN q) ∧ Hid (∀ j, j < i → sgL.getD j 0 ≠ r))
      case atStart => exact ⟨0, rfl, rfl, ⟨0, rfl⟩, Lib.hid (fun j h => absurd h (Nat.not_lt_zero j))⟩
      case round =>
        obtain ⟨i, hin, rfl, ⟨qq, rfl⟩, HJ⟩ := hrel
        by_cases hi : i < 14
        · have hiz : (i : Int) < 14 := by omega
          obtain ⟨hc1, hex⟩ := sg_all ⟨i, hi⟩
          have hget := sg_get ⟨i, hi⟩
          dsimp only at hc1 hex hget
          obtain ⟨c, hc⟩ : ∃ c, sgL.getD i 0 = c := ⟨_, rfl⟩
          rw [hc] at hc1 hex hget
          have HI := Lib.hid hin
          have HC := Lib.hid hc
          clear hin hc
          by_cases hcr : c = r
          · have hcz : ((c : Int) != (r : Int)) = false := by rw [hcr]; simp
            have hsg : isSign r = true := (sg_in r).2 ⟨i, hi, HC.out.trans hcr⟩
            have ho := HO2.out
            rw [if_pos hsg] at ho
            have HO3 := Lib.hid ho
            have hw : IntKind.i64.wrap ((i : Int) + 1) = (i : Int) + 1 := IntWalk.i64_in _ (by omega)
            have hi1 : (i : Int) ≤ (i : Int) + 1 := by omega
            have hi2 : (i : Int) + 1 ≤ 14 := by omega
            have hi3 : ((i : Int) + 1).toNat = i + 1 := by omega
            obtain ⟨S, hS⟩ : ∃ S : ByteArray, (⟨#[UInt8.ofNat c]⟩ : ByteArray) = S := ⟨_, rfl⟩
            rw [hS] at hex
            have hSe : S = ⟨[UInt8.ofNat r].toArray⟩ := by rw [← hS, hcr]
            have hSs : S.size = 1 := by rw [← hS]; rfl
            obtain ⟨S2, hS2⟩ : ∃ S2 : ByteArray, S ++ (⟨#[61]⟩ : ByteArray) = S2 := ⟨_, rfl⟩
            have hSe2 : S2 = ⟨[UInt8.ofNat r, 61].toArray⟩ := by rw [← hS2, hSe]; apply ByteArray.ext; simp
            have HSE := Lib.hid hSe
            have HSE2 := Lib.hid hSe2
            clear hS ho hsg hSe hSe2 hcr HO2
            go_wp2_with fail
            go_quiet (fail)
            go_upto_region 12 with fail
            have hA5 := ((HA.out.q (qq + nq)).put lo 1 (.string S)).goes (n := k + 1) (z := (k : Int) + 1) (by omega) (by omega)
            have hF5 := ((HF.out.q (qq + nq)).str (.string S)).goes hgl (.int .i64 ((k : Int) + 1))
            have hQ5 := ((HQ.out.later (below_still ⟨qq + nq, rfl⟩)).other (b := b) (i := 1) (u := .string S) hbq).other (b := g) (i := 2) (u := .int .i64 ((k : Int) + 1)) hgq
            generalize hw5 : ((w3.drewN (qq + nq)).setCell ⟨b, 1, none⟩ (.string S)).setCell ⟨g, 2, none⟩ (.int .i64 ((k : Int) + 1)) = w5 at *
            clear hw5 hw hi1 hi2 hi3 hex hget hcz hiz q2 q3 ql tl t0 t1 t2 t3 tf0 tf1 tf2 tf3 rl z0 z1 z2 z3 f0 f1 f2' f3 HJ hi hc1 c0 c1 c2 f2
            obtain ⟨c0, c1, c2, f2⟩ := hA5.1.cells
            have HA5 := Lib.hid hA5
            have HF5 := Lib.hid hF5
            obtain ⟨-, -, -, ⟨tl, t0, t1, t2, t3, tf0, tf1, tf2, tf3⟩, ⟨rl, z0, z1, z2, z3, f0, f1, f2', f3⟩⟩ := hF5
            obtain ⟨-, -, -, q2, -, -, -, -, -⟩ := hQ5
            rw [HXR.out] at q2
            clear HA HF HQ hA5
            by_cases htwo : isTwo r = true
            · have h3 := (isTwo_iff r).1 htwo
              by_cases hnx : ∃ y, P[k + 1]? = some y ∧ y.1 = 61
              · have HO4 := Lib.hid (show O = some ⟨4, [UInt8.ofNat r, 61], 0, 1⟩ by
                  rw [← HO3.out, if_pos ⟨htwo, by rw [← HRD.out]; exact head_at.2 hnx⟩])
                obtain ⟨y, hy, hy1⟩ := hnx
                have hkl := (List.getElem?_eq_some_iff.1 hy).1
                obtain ⟨bp2, e2, -, -, p2, -⟩ := HA5.out.1.piece hy
                injection e2 with e2
                injection e2 with e2
                subst e2
                rw [hy1] at p2
                have hkz2 : (k : Int) + 1 < (P.length : Int) := by omega
                clear hy hy1 htwo HO3 HSE
                rcases h3 with rfl | rfl | rfl
                all_goals
                  go_wp2_with fail
                  go_quiet (fail)
                  go_wp2_with fail
                  exact bodyPost_ret (v := .tuple #[T4 4 S2 0 here, .bool true]) (by simp [results, Tryz.results70, go_sem, z0, z1, z2, z3]) rfl (LTok.yes2 (f := ⟨4, [_, 61], 0, 1⟩) ((((HA5.out.q _).put lo 1 _).goes (n := k + 2) (by omega) (by omega)).fin lo2 _ _ _ _) HH.out HO4.out rfl HSE2.out)
              · have HO4 := Lib.hid (show O = some ⟨4, [UInt8.ofNat r], 0, 0⟩ by
                  rw [← HO3.out, if_neg (fun h => hnx (head_at.1 (by rw [HRD.out]; exact h.2)))])
                by_cases hkl : k + 1 < P.length
                · obtain ⟨y, hy⟩ : ∃ y, P[k + 1]? = some y := ⟨_, List.getElem?_eq_getElem hkl⟩
                  obtain ⟨bp2, e2, -, -, p2, -⟩ := HA5.out.1.piece hy
                  injection e2 with e2
                  injection e2 with e2
                  subst e2
                  have hy1 : y.1 ≠ 61 := fun e => hnx ⟨y, hy, e⟩
                  have hyz : ((y.1 : Int) == 61) = false := beq_eq_false_iff_ne.2 (by omega)
                  have hkz2 : (k : Int) + 1 < (P.length : Int) := by omega
                  clear hy hnx htwo HO3 HSE2
                  rcases h3 with rfl | rfl | rfl
                  all_goals
                    go_wp2_with fail
                    go_quiet (fail)
                    go_wp2_with fail
                    exact bodyPost_ret (v := .tuple #[T4 4 S 0 here, .bool true]) (by simp [results, Tryz.results70, go_sem, z0, z1, z2, z3]) rfl (LTok.yes2 (f := ⟨4, [_], 0, 0⟩) ((HA5.out.q _).fin lo2 _ _ _ _) HH.out HO4.out rfl HSE.out)
                · have hkz2 : ¬ (k : Int) + 1 < (P.length : Int) := by omega
                  have hkd : decide ((k : Int) + 1 < (P.length : Int)) = false := decide_eq_false (by omega)
                  clear hnx htwo HO3 HSE2
                  rcases h3 with rfl | rfl | rfl
                  all_goals
                    go_wp2_with fail
                    go_quiet (fail)
                    go_wp2_with fail
                    exact bodyPost_ret (v := .tuple #[T4 4 S 0 here, .bool true]) (by simp [results, Tryz.results70, go_sem, z0, z1, z2, z3]) rfl (LTok.yes2 (f := ⟨4, [_], 0, 0⟩) ((HA5.out.q _).fin lo2 _ _ _ _) HH.out HO4.out rfl HSE.out)
            · have HO4 := Lib.hid (show O = some ⟨4, [UInt8.ofNat r], 0, 0⟩ by rw [← HO3.out, if_neg (fun h => htwo h.1)])
              have h60 : ((r : Int) == 60) = false := beq_eq_false_iff_ne.2 (fun e => htwo ((isTwo_iff r).2 (by omega)))
              have h62 : ((r : Int) == 62) = false := beq_eq_false_iff_ne.2 (fun e => htwo ((isTwo_iff r).2 (by omega)))
              have h33 : ((r : Int) == 33) = false := beq_eq_false_iff_ne.2 (fun e => htwo ((isTwo_iff r).2 (by omega)))
              clear htwo HO3 HSE2
              go_wp2_with fail
              go_quiet (fail)
              go_wp2_with fail
              exact bodyPost_ret (v := .tuple #[T4 4 S 0 here, .bool true]) (by simp [results, Tryz.results70, go_sem, z0, z1, z2, z3]) rfl (LTok.yes2 (f := ⟨4, [UInt8.ofNat r], 0, 0⟩) ((HA5.out.q _).fin lo2 _ _ _ _) HH.out HO4.out rfl HSE.out)
          · have hcz : ((c : Int) != (r : Int)) = true := bne_iff_ne.2 (by omega)
            have hnx : ∀ j, j < i + 1 → sgL.getD j 0 ≠ r := by
              intro j hj
              rcases Nat.lt_or_eq_of_le (Nat.le_of_lt_succ hj) with h | h
              · exact HJ.out j h
              · subst h; rw [HC.out]; exact hcr
            have HNX := Lib.hid hnx
            clear hnx hcr
            go_wp2_with fail
            go_quiet (fail)
            go_wp2_with fail
            go_roundg (gk - 1)
            case measure => have := HI.out; omega
            case rel => exact ⟨i + 1, by have := HI.out; omega, by go_num, ⟨_, rfl⟩, HNX⟩
        · have hiz : ¬ (i : Int) < 14 := by omega
          obtain rfl : i = 14 := by omega
          have ho : O = none := by
            rw [← HO2.out, if_neg (fun h => by
              obtain ⟨j, h1, h2⟩ := (sg_in r).1 h
              exact HJ.out j h1 h2)]
          have HO3 := Lib.hid ho
          clear ho
          go_wp2_with fail
          exact bodyPost_ret (v := .tuple #[T4 4 ⟨#[]⟩ 0 here, .bool false]) (by simp [results, Tryz.results70, go_sem, z0, z1, z2, z3]) rfl (LTok.no ((HA.out.q _).fin lo2 _ _ _ _).2.1 _ _ _ HH.out HO3.out)
end Go.Proofs.YtkbeemkmcnfiiaaGreatDoor
