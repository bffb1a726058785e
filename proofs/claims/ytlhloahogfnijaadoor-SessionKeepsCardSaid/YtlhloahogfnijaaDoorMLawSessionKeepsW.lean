/- The statement SessionKeeps: what is kept is the last one's, till a later one; of whom no session is there nothing is kept. Conditions: none. -/
import Derived.Test.YtlhloahogfnijaaDoorMSsP
import Derived.Test.YtlhloahogfnijaaDoorMSsA
import Derived.Test.YtlhloahogfnijaaDoorMCmS
import Derived.Test.YtlhloahogfnijaaDoorMPlc
import Derived.StillTailTactics
import Derived.Deep.CutRange
import Derived.Deep.RegionWith
namespace Go.Proofs.YtlhloahogfnijaaDoor
open Go.RowKit Go.Maps Go.Sort Go.Shelf
set_option linter.unusedSimpArgs false

/-- A reply that bears a number alone. -/
def rN (n : Int) : Rp := ⟨0, n, 0, 0, ⟨#[]⟩⟩
theorem rN_in {n : Int} (h0 : 0 ≤ n) (h1 : n ≤ 1099511627776) : (rN n).In :=
  ⟨by show (_ : Int) ≤ 0; decide, by show (0 : Int) ≤ _; decide, by show _ ≤ n; omega, by show n ≤ _; omega, by show (_ : Int) ≤ 0; decide, by show (0 : Int) ≤ _; decide, by show (_ : Int) ≤ 0; decide, by show (0 : Int) ≤ _; decide⟩
theorem check0 : checkB 0 0 [] = true := by decide +kernel
theorem rN_rep {n : Int} (h0 : 0 ≤ n) (h1 : n ≤ 1099511627776) : repB (rN n) = true := by
  show (true && (wi 0 n && checkB 0 0 [])) = true
  rw [wi_iff.2 ⟨h0, h1⟩, check0]; rfl
/-- The one session. -/
def oneS (q n : Int) : List Se := [⟨7, 7, q, rN n⟩]
theorem oneS_may (q n a : Int) (p : Int) (h0 : 0 ≤ p) (h1 : p ≤ 1099511627776) : mayK 7 a (rN p) (oneS q n) = wi (q + 1) a := by
  unfold mayK oneS findS
  rw [if_pos rfl]
  show (wi (q + 1) a && repB (rN p)) = _
  rw [rN_rep h0 h1]; simp
theorem oneS_keep (q n a : Int) (p : Int) (h0 : 0 ≤ p) (h1 : p ≤ 1099511627776) : keepS 7 a (rN p) (oneS q n) = if wi (q + 1) a then (true, oneS a p) else (false, oneS q n) := by
  unfold keepS
  rw [oneS_may q n a p h0 h1]
  split <;> rfl
theorem oneS_else (q n a : Int) (p : Int) : keepS 8 a (rN p) (oneS q n) = (false, oneS q n) := rfl
theorem Blk.but {w w' : World} {b g r : Nat} {t : TypeId} {cs : Array Value} (h : Blk w b t cs) (hb : But2 g r w w') (h1 : b ≠ g) (h2 : b ≠ r) : Blk w' b t cs := (hb.block b h.lt h1 h2).trans h
theorem Tab.only {w w' : World} {T r most g : Nat} {L : List Se} (h : Tab w T r most L) (ho : Only g w w') (h1 : T ≠ g) (h2 : r ≠ g) : Tab w' T r most L :=
  h.other (a := g) (b := g) ⟨ho.os, ho.tape, ho.output, Nat.le_of_eq ho.size.symm, fun i _ hi _ => ho.block i hi⟩ h1 h1 h2 h2
theorem cell_same {w : World} {A : Option Addr} {b off k : Nat} {z : Int} (e : A = some ⟨b, off, none⟩) (h : ∃ b' off', A = some ⟨b', off', none⟩ ∧ w.cell? ⟨b', off' + k, none⟩ = some (.int .i64 z)) : w.cell? ⟨b, off + k, none⟩ = some (.int .i64 z) := by
  obtain ⟨b', off', e', h⟩ := h
  rw [e] at e'
  injection e' with e'
  injection e' with e1 e2
  subst e1 e2
  exact h
theorem put_rep {w W : World} {T r most g : Nat} {L : List Se} {n m : Int} (hT : Tab W T r most L) (hG : Blk W g 31 (cs5 0 n 0 0 ⟨#[]⟩)) (hB : Below w.heap.size w W) (hg : w.heap.size ≤ g) (h1 : T < g) (h2 : r < g) :
    Hid (Tab (((((W.setCell ⟨g, 0, none⟩ (.int .i64 0)).setCell ⟨g, 1, none⟩ (.int .i64 m)).setCell ⟨g, 2, none⟩ (.int .i64 0)).setCell ⟨g, 3, none⟩ (.int .i64 0)).setCell ⟨g, 4, none⟩ (.string ⟨#[]⟩)) T r most L) ∧
    Hid (Blk (((((W.setCell ⟨g, 0, none⟩ (.int .i64 0)).setCell ⟨g, 1, none⟩ (.int .i64 m)).setCell ⟨g, 2, none⟩ (.int .i64 0)).setCell ⟨g, 3, none⟩ (.int .i64 0)).setCell ⟨g, 4, none⟩ (.string ⟨#[]⟩)) g 31 (cs5 0 m 0 0 ⟨#[]⟩)) ∧
    Hid (Below w.heap.size w (((((W.setCell ⟨g, 0, none⟩ (.int .i64 0)).setCell ⟨g, 1, none⟩ (.int .i64 m)).setCell ⟨g, 2, none⟩ (.int .i64 0)).setCell ⟨g, 3, none⟩ (.int .i64 0)).setCell ⟨g, 4, none⟩ (.string ⟨#[]⟩))) := by
  have hO := ((((Only.one W g 0 (.int .i64 0)).setCell 1 (.int .i64 m)).setCell 2 (.int .i64 0)).setCell 3 (.int .i64 0)).setCell 4 (.string ⟨#[]⟩)
  exact ⟨Lib.hid (hT.only hO (by omega) (by omega)), Lib.hid (((((hG.set 0 _).set 1 _).set 2 _).set 3 _).set 4 _), Lib.hid (hB.trans (hO.below hg))⟩
set_option maxHeartbeats 16000000 in
set_option maxRecDepth 100000 in
theorem sessionkeeps_walk (A : Option Addr) (Z : List Int) (c : Nat) (B : Option Addr) (Y : List Int) (d : Nat) (w : World)
    (_hc : Z.length ≤ c) (hcm : c ≤ 17592186044416) (hZ : Is w A Z) (hN : ∀ z ∈ Z, -9223372036854775808 ≤ z ∧ z ≤ 9223372036854775807) (_hA : A = none → c = 0)
    (_hd : Y.length ≤ d) (hdm : d ≤ 17592186044416) (hY : Is w B Y) (hM : ∀ z ∈ Y, -9223372036854775808 ≤ z ∧ z ≤ 9223372036854775807) (_hB : B = none → d = 0) (hT : Tabs w) :
    Calls Tryd.prog 3 #[.slice A Z.length c, .slice B Y.length d] w fun e w' => e = .returned (.bool true) ∧ Below w.heap.size w w' := by
  have HZ := Lib.hid hZ
  have HY := Lib.hid hY
  have HT := Lib.hid hT
  have HZI := Lib.hid hN
  have HYI := Lib.hid hM
  have e1 : cutM 3 = 3 := by decide
  have c1 := stnew_any 3 w
  rw [e1] at c1
  obtain ⟨N, hN'⟩ : ∃ N, N = min Z.length 40 := ⟨_, rfl⟩
  have HN := Lib.hid hN'
  have hzl : Z.length ≤ 17592186044416 := by omega
  have hyl : Y.length ≤ 17592186044416 := by omega
  clear hZ hY hT hN' hN hM
  go_enter Tryd.func3, Tryd.ntmps3
  go_wp2_with fail
  refine c1.mono ?_
  rintro e w1 ⟨T, r, rfl, H1, hTw, hrw, hb1⟩
  have c2 := stopen_any T r 3 [] 7 w1 H1
  rw [show openS 3 7 [] = ((0, true), oneS 0 0) by kernel_rfl] at c2
  dsimp only at c2
  have hs1 := hb1.size
  have HB1 := Lib.hid hb1
  clear hb1 c1
  go_wp2_with fail
  refine c2.mono ?_
  rintro e w2 ⟨rfl, H2, B2⟩
  have HB2 := Lib.hid (HB1.out.trans (B2.low (.inr hs1) hrw hs1))
  have b3 := Ss.below_alloc w2 (.cells (cs5 0 0 0 0 ⟨#[]⟩) 31)
  have HR := Lib.hid (Blk.new w2 (cs5 0 0 0 0 ⟨#[]⟩) 31)
  have HB3 := Lib.hid (HB2.out.trans (b3.mono HB2.out.size))
  have H3 := Lib.hid (H2.later b3)
  have hgw := HB2.out.size
  have HTl := Lib.hid H2.lt
  obtain ⟨g, hg⟩ : ∃ g, w2.heap.size = g := ⟨_, rfl⟩
  have HRl := Lib.hid H2.m.lt
  rw [hg] at HR hgw HTl HRl
  clear b3 B2 c2 hs1 H2
  go_wp2_with fail
  go_loopg [6, 8] (N) (fun m s6 s8 wr => ∃ (k : Nat) (q n : Int), k + m = N ∧ s8 = .int .i64 (k : Int) ∧ s6 = .int .i64 q ∧ (0 ≤ n ∧ n ≤ 1099511627776) ∧ (0 ≤ q ∧ q ≤ 1099511627776) ∧ Hid (Tab wr T r 3 (oneS q n)) ∧ Hid (Blk wr g 31 (cs5 0 n 0 0 ⟨#[]⟩)) ∧ Hid (Below w.heap.size w wr))
  case atStart => exact ⟨0, 0, 0, by omega, rfl, rfl, ⟨by decide, by decide⟩, ⟨by decide, by decide⟩, H3, HR, HB3⟩
  case round =>
    obtain ⟨k, q, n, hkm, rfl, rfl, ⟨hn0, hn1⟩, ⟨hq0, hq1⟩, HK, HG, HW⟩ := hrel
    have HKM := Lib.hid hkm
    clear H3 HR HB3
    by_cases hk : k < N
    · have hkl : k < Z.length := by have := HN.out; omega
      have hkz : (k : Int) < (Z.length : Int) := by omega
      have hk4 : (k : Int) < 40 := by have := HN.out; omega
      have hlt := HG.out.lt
      have HX := Lib.hid (List.getElem?_eq_getElem hkl)
      have hzb := HZI.out Z[k] (List.getElem_mem hkl)
      have HC := Lib.hid (fun W (hb : Below w.heap.size w W) => Ss.is_at (HZ.out.below hb) hkl)
      obtain ⟨z, hz⟩ : ∃ z, Z[k] = z := ⟨_, rfl⟩
      rw [hz] at hzb HC
      clear hz
      obtain ⟨x, hx⟩ : ∃ x, wr.heap.size = x := ⟨_, rfl⟩
      have hgx : g < x := by omega
      have hxs : w.heap.size ≤ x := by have := HW.out.size; omega
      have HTx := Lib.hid (show T < x by have := HTl.out; omega)
      have HRx := Lib.hid (show r < x by have := HRl.out; omega)
      have FA : Hid (∀ p : Int, Blk (wr.alloc (.cells (cs5 0 p 0 0 ⟨#[]⟩) 31)) x 31 (cs5 0 p 0 0 ⟨#[]⟩) ∧ Tab (wr.alloc (.cells (cs5 0 p 0 0 ⟨#[]⟩) 31)) T r 3 (oneS q n) ∧ Blk (wr.alloc (.cells (cs5 0 p 0 0 ⟨#[]⟩) 31)) g 31 (cs5 0 n 0 0 ⟨#[]⟩) ∧ Below w.heap.size w (wr.alloc (.cells (cs5 0 p 0 0 ⟨#[]⟩) 31))) := Lib.hid fun p => by
        have bx := Ss.below_alloc wr (.cells (cs5 0 p 0 0 ⟨#[]⟩) 31)
        have X1 := Blk.new wr (cs5 0 p 0 0 ⟨#[]⟩) 31
        rw [hx] at X1
        exact ⟨X1, HK.out.later bx, HG.out.later bx, HW.out.trans (bx.mono HW.out.size)⟩
      have HYC := Lib.hid (fun h : k < Y.length => Ss.is_at (HY.out.below (FA.out (k : Int)).2.2.2) h)
      clear hkm HK HG
      have hcase : (∃ y p, ∃ h : k < Y.length, Y[k] = y ∧ (∀ W, Calls Tryd.prog 8 #[.int .i64 y, .int .i64 1099511627776] W fun e w' => e = .returned (.int .i64 p) ∧ W = w') ∧ 0 ≤ p ∧ p ≤ 1099511627776) ∨ Y.length ≤ k := by
        by_cases h : k < Y.length
        · have hb := HYI.out _ (List.getElem_mem h)
          have hp0 := placeZ_lo Y[k] 1099511627776 (by decide)
          have hp1 := placeZ_hi Y[k] 1099511627776 (by decide)
          exact .inl ⟨_, _, h, rfl, fun W => place_z _ 1099511627776 W hb.1 hb.2 (by decide) (by decide), hp0, by omega⟩
        · exact .inr (by omega)
      have hpar : ∃ p : Int, (0 ≤ p ∧ p ≤ 1099511627776) ∧ ((∃ y, ∃ h : k < Y.length, Y[k] = y ∧ (∀ W, Calls Tryd.prog 8 #[.int .i64 y, .int .i64 1099511627776] W fun e w' => e = .returned (.int .i64 p) ∧ W = w')) ∨ (Y.length ≤ k ∧ (k : Int) = p)) := by
        rcases hcase with ⟨y, p, h, h1, h2, h3, h4⟩ | h
        · exact ⟨p, ⟨h3, h4⟩, .inl ⟨y, h, h1, h2⟩⟩
        · exact ⟨k, ⟨by omega, by omega⟩, .inr ⟨h, rfl⟩⟩
      clear hcase
      obtain ⟨p, ⟨hp0, hp1⟩, hpar⟩ := hpar
      obtain ⟨X1, K1, G1, B1⟩ := FA.out p
      have HB1 := Lib.hid B1
      have hBwp := Lib.hid (show True from trivial)
      clear X1 K1 G1 B1 hBwp
      have HPAR := Lib.hid hpar
      clear hpar
      go_upto_if 35 with fail
      go_cut [9] from 20 to 96 (fun s9 wx => s9 = .pointer (some ⟨x, 0, none⟩) ∧ wx = wr.alloc (.cells (cs5 0 p 0 0 ⟨#[]⟩) 31))
      case first =>
        rcases HPAR.out with ⟨y, hy, hye, cp⟩ | ⟨hy, hkp⟩
        · have hyz : (k : Int) < (Y.length : Int) := by omega
          obtain ⟨bb, oo, rfl, hcy⟩ := HYC.out hy
          rw [hye] at hcy
          go_wp2_with fail
          refine (cp _).mono ?_
          rintro e w9 ⟨rfl, rfl⟩
          clear hcy cp
          go_wp2_with fail
          go_meet
          exact ⟨rfl, rfl⟩
        · have hyz : ¬ (k : Int) < (Y.length : Int) := by omega
          have HKP := Lib.hid hkp
          clear hkp
          go_wp2_with fail
          go_meet
          exact ⟨rfl, by rw [← HKP.out]⟩
      case rest =>
        obtain ⟨rfl, rfl⟩ := hcut
        obtain ⟨X3, K3, G3, B3⟩ := FA.out p
        generalize wr.alloc (.cells (cs5 0 p 0 0 ⟨#[]⟩) 31) = w3 at *
        have HX3 := Lib.hid X3
        have HG3 := Lib.hid G3
        have HB3 := Lib.hid B3
        obtain ⟨b, off, hAe, hcz⟩ := HC.out w3 B3
        subst hAe
        have hout : ∃ (bk : Bool) (q' n' : Int), keepS 7 z (rN p) (oneS q n) = (bk, oneS q' n') ∧ (0 ≤ n' ∧ n' ≤ 1099511627776) ∧ (0 ≤ q' ∧ q' ≤ 1099511627776) ∧ ((decide (q < z) = true ∧ decide (z ≤ 1099511627776) = true ∧ bk = true ∧ q' = z ∧ n' = p) ∨ (decide (q < z) = false ∧ bk = false ∧ q' = q ∧ n' = n) ∨ (decide (q < z) = true ∧ decide (z ≤ 1099511627776) = false ∧ bk = false ∧ q' = q ∧ n' = n)) := by
          have hok := oneS_keep q n z p hp0 hp1
          by_cases h1 : q < z
          · by_cases h2 : z ≤ 1099511627776
            · rw [if_pos (wi_iff.2 ⟨by omega, h2⟩)] at hok
              exact ⟨_, _, _, hok, ⟨hp0, hp1⟩, ⟨by omega, h2⟩, .inl ⟨decide_eq_true h1, decide_eq_true h2, rfl, rfl, rfl⟩⟩
            · rw [if_neg (by rw [wi_iff]; omega)] at hok
              exact ⟨_, _, _, hok, ⟨hn0, hn1⟩, ⟨hq0, hq1⟩, .inr (.inr ⟨decide_eq_true h1, decide_eq_false h2, rfl, rfl, rfl⟩)⟩
          · rw [if_neg (by rw [wi_iff]; omega)] at hok
            exact ⟨_, _, _, hok, ⟨hn0, hn1⟩, ⟨hq0, hq1⟩, .inr (.inl ⟨decide_eq_false h1, rfl, rfl, rfl⟩)⟩
        obtain ⟨bk, q', n', hkeep, ⟨hm0, hm1⟩, ⟨hk0, hk1⟩, hcs⟩ := hout
        have ck := stkeep_any T r 3 (oneS q n) 7 z (rN p) w3.drew (K3.later (below_drewN (Below.refl _ _) 1)) (rN_in hp0 hp1) (by show (0 : Nat) < _; decide) (HT.out.later (below_drewN B3 1))
        rw [hkeep] at ck
        change Calls Tryd.prog _ #[_, _, _, .agg #[.int .i64 0, .int .i64 p, .int .i64 0, .int .i64 0, .string ⟨#[]⟩]] _ _ at ck
        dsimp only at ck
        obtain ⟨hl3, x0, x1, x2, x3, x4⟩ := X3.c5
        have ck2 := fun W (hb : Below w.heap.size w W) (hW : Tab W T r 3 (oneS q' n')) => stkeep_any T r 3 (oneS q' n') 8 z (rN p) W hW (rN_in hp0 hp1) (by show (0 : Nat) < _; decide) (HT.out.later hb)
        simp only [oneS_else] at ck2
        change ∀ W (hb : Below w.heap.size w W) (hW : Tab W T r 3 (oneS q' n')), Calls Tryd.prog _ #[_, _, _, .agg #[.int .i64 0, .int .i64 p, .int .i64 0, .int .i64 0, .string ⟨#[]⟩]] _ _ at ck2
        have HCK2 := Lib.hid ck2
        have HCS := Lib.hid hcs
        clear X3 K3 G3 B3 hkeep ck2 hcs
        go_upto_region 13 with fail
        go_cut [10] from 20 to 96 (fun s10 wx => s10 = .bool bk ∧ Hid (Tab wx T r 3 (oneS q' n')) ∧ Hid (Blk wx x 31 (cs5 0 p 0 0 ⟨#[]⟩)) ∧ Hid (Blk wx g 31 (cs5 0 n 0 0 ⟨#[]⟩)) ∧ Hid (Below w.heap.size w wx))
        case first =>
          go_region_with (go_at_call 9; refine ck.mono ?_; rintro e wy ⟨rfl, Hy, By⟩)
          all_goals
            have ha3 : (w3.drew).heap.size = w3.heap.size := rfl
            have HBy := Lib.hid ((below_drewN HB3.out 1).trans (By.low (.inr (below_drewN HB3.out 1).size) hrw (below_drewN HB3.out 1).size))
            have Xy := Lib.hid (Blk.but (w := w3.drew) HX3.out By (by omega) (by have := HRx.out; omega))
            have Gy := Lib.hid (Blk.but (w := w3.drew) HG3.out By (by omega) (by have := HRl.out; omega))
            have Hy' := Lib.hid Hy
            clear By Hy x0 x1 x2 x3 x4 ck hcz
            go_wp2_with fail
            go_meet
            exact ⟨rfl, Hy', Xy, Gy, HBy⟩
        obtain ⟨rfl, Hy, HXy, HGy, HBy⟩ := hcut
        clear ck x0 x1 x2 x3 x4 hcz
        go_upto_region 14 with fail
        go_cut [72] from 20 to 96 (fun s72 wx => s72 = .bool false ∧ Hid (Tab wx T r 3 (oneS q' n')) ∧ Hid (Blk wx x 31 (cs5 0 p 0 0 ⟨#[]⟩)) ∧ Hid (Blk wx g 31 (cs5 0 n 0 0 ⟨#[]⟩)) ∧ Hid (Below w.heap.size w wx))
        case first =>
          have hcy := cell_same rfl (HC.out wc HBy.out)
          have ck2 := HCK2.out wc.drew (below_drewN HBy.out 1) (Hy.out.later (below_drewN (Below.refl _ _) 1))
          obtain ⟨hly, y0, y1, y2, y3, y4⟩ := HXy.out.c5
          rcases HCS.out with ⟨h1, h2, rfl, rfl, rfl⟩ | ⟨h1, rfl, rfl, rfl⟩ | ⟨h1, h2, rfl, rfl, rfl⟩
          all_goals
            refine wp_region_still_tail 22 (by kernel_rfl) (by kernel_rfl) ?_
            simp only [List.take_succ_cons, List.take_zero, List.drop_succ_cons, List.drop_zero]
            repeat still_step
            refine wpStill_nil ?_
            change wpList _ _ _ _ _ wc.drew
            go_wp2_with fail
            refine ck2.mono ?_
            rintro e wz ⟨rfl, Hz, Bz⟩
            have hbd := below_drewN HBy.out 1
            have HBz := Lib.hid (hbd.trans (Bz.low (.inr hbd.size) hrw hbd.size))
            have had : (wc.drew).heap.size = wc.heap.size := rfl
            have Xz := Lib.hid (Blk.but (w := wc.drew) HXy.out Bz (by omega) (by have := HRx.out; omega))
            have Gz := Lib.hid (Blk.but (w := wc.drew) HGy.out Bz (by have := HGy.out.lt; omega) (by have := HRl.out; omega))
            have HHz := Lib.hid Hz
            clear Bz Hz y0 y1 y2 y3 y4 ck2 hcy
            go_wp2_with fail
            go_meet
            exact ⟨rfl, HHz, Xz, Gz, HBz⟩
        obtain ⟨rfl, Hz, HXz, HGz, HBz⟩ := hcut
        clear Hy HXy HGy HBy
        go_upto_if 73 with fail
        go_cut [6] from 20 to 96 (fun s6 wx => s6 = .int .i64 q' ∧ Hid (Tab wx T r 3 (oneS q' n')) ∧ Hid (Blk wx g 31 (cs5 0 n' 0 0 ⟨#[]⟩)) ∧ Hid (Below w.heap.size w wx))
        case first =>
          have hczz := cell_same rfl (HC.out _ HBz.out)
          obtain ⟨hlz, z0, z1, z2, z3, z4⟩ := HXz.out.c5
          obtain ⟨hlg, v0, v1, v2, v3, v4⟩ := HGz.out.c5
          obtain ⟨f0, f1, f2, f3, f4, -, -, -⟩ := HGz.out.t8
          rcases HCS.out with ⟨h1, h2, rfl, rfl, rfl⟩ | ⟨h1, rfl, rfl, rfl⟩ | ⟨h1, h2, rfl, rfl, rfl⟩
          · obtain ⟨H1', H2', H3'⟩ := put_rep (m := n') Hz.out HGz.out HBz.out hgw HTl.out HRl.out
            go_wp2_with fail
            go_meet
            exact ⟨rfl, H1', H2', H3'⟩
          · go_wp2_with fail
            go_meet
            exact ⟨rfl, Hz, HGz, HBz⟩
          · go_wp2_with fail
            go_meet
            exact ⟨rfl, Hz, HGz, HBz⟩
        case rest =>
          obtain ⟨rfl, HTx', HGx', HBx'⟩ := hcut
          have cl := stlast_any T r 3 (oneS q' n') 7 wc HTx'.out
          change Calls _ _ _ _ (fun e w' => e = .returned (.tuple #[.int .i64 q', .agg #[.int .i64 0, .int .i64 n', .int .i64 0, .int .i64 0, .string ⟨#[]⟩], .bool true]) ∧ _) at cl
          have heq := fun W => eqlIn_rep 0 n' 0 0 ⟨#[]⟩ 0 n' 0 0 ⟨#[]⟩ W
          rw [(sameR_iff 0 n' 0 0 ⟨#[]⟩ 0 n' 0 0 ⟨#[]⟩).2 ⟨rfl, rfl, rfl, rfl, rfl⟩] at heq
          have hqq : (q' != q') = false := by simp
          go_wp2_with fail
          refine cl.mono ?_
          rintro e w5 ⟨rfl, hb5⟩
          have b6 := Ss.below_alloc w5 (.cells (cs5 0 n' 0 0 ⟨#[]⟩) 31)
          have HT6 := Lib.hid ((HTx'.out.later hb5).later b6)
          have G6 := (HGx'.out.later hb5).later b6
          have HG6 := Lib.hid G6
          have hB5 := HBx'.out.trans (hb5.mono HBx'.out.size)
          have HB6 := Lib.hid (hB5.trans (b6.mono hB5.size))
          obtain ⟨hlg, v0, v1, v2, v3, v4⟩ := G6.c5
          clear hb5 b6 G6 hB5 cl
          go_wp2_with fail
          go_roundg (N - (k + 1))
          case measure => have := HKM.out; omega
          case rel => exact ⟨k + 1, q', n', by have := HKM.out; omega, by go_num, rfl, ⟨hm0, hm1⟩, ⟨hk0, hk1⟩, HT6, HG6, HB6⟩
    · have hh : k = Z.length ∨ (k = 40 ∧ (40 : Int) < (Z.length : Int)) := by have := HN.out; omega
      obtain ⟨hlg, v0, v1, v2, v3, v4⟩ := HG.out.c5
      have cr := rreply_any (rN n) (rN_in hn0 hn1) wr
      rw [rN_rep hn0 hn1] at cr
      change Calls _ _ #[.agg #[.int .i64 0, .int .i64 n, .int .i64 0, .int .i64 0, .string ⟨#[]⟩]] _ _ at cr
      clear hkm hk HKM
      rcases hh with rfl | ⟨rfl, hk6⟩
      all_goals
        go_wp2_with fail
        refine cr.mono ?_
        rintro e w2 ⟨rfl, hb2⟩
        have HB2 := Lib.hid (HW.out.trans (hb2.mono HW.out.size))
        have ca := stawake_any w2
        clear hb2 cr
        go_wp2_with fail
        refine ca.mono ?_
        rintro e w6 ⟨rfl, hb6⟩
        go_wp2_with fail
        go_ret
        exact ⟨rfl, HB2.out.trans (hb6.mono HB2.out.size)⟩
end Go.Proofs.YtlhloahogfnijaaDoor
