/- The contract of the document's own Lex: a formula's tokens, or where the first wrong one begins. -/
import Derived.Test.YtkbeemkmcnfiiaaGreatDoorMLexTx
import Derived.Test.YtkbeemkmcnfiiaaGreatDoorMLexSig
import Derived.Test.YtkbeemkmcnfiiaaGreatDoorGF
import Derived.Test.YtkbeemkmcnfiiaaGreatDoorHH
import Derived.Test.YtkbeemkmcnfiiaaGreatDoorGH
namespace Go.Proofs.YtkbeemkmcnfiiaaGreatDoor
open Go.RowKit

theorem own_away {w w' : World} {B g : Nat} {e : TypeId} {z : Nat} {v : Value} {n : Nat} {xs : List Value} (h : w.ownsRow B e z v n xs) (hb : Away g w w') (hg : g < B) : w'.ownsRow B e z v n xs := by
  refine ⟨h.1, ?_⟩
  rcases h.2 with hn | ⟨k, cap, cur, hv, hbg, hk, rest⟩
  · exact .inl hn
  · exact .inr ⟨k, cap, cur, hv, hbg, (hb.block k (Array.getElem?_eq_some_iff.1 hk).1 (by omega)).trans hk, rest⟩
theorem LA.grown {w0 w w' : World} {g : Nat} {t : ByteArray} {P : List Pc} {ao : Option Addr} {cap k : Nat} {row : Option Nat} (h : LA w0 w g t P ao cap k) (hg : w.grownBy w' row) (hr : ∀ b, row = some b → w0.heap.size ≤ b) : LA w0 w' g t P ao cap k := by
  obtain ⟨⟨h1, h2, h3, -⟩, h5, h6, h7⟩ := h
  have hgl := (Array.getElem?_eq_some_iff.1 h3).1
  have h8 : Away g w0 w' := ⟨hg.os.trans h5.os, hg.tape.trans h5.tape, hg.output.trans h5.output, Nat.le_trans h5.size hg.size, fun i hi hn => (hg.block i (Nat.lt_of_lt_of_le hi h5.size) (fun e => by have := hr i e.symm; omega)).trans (h5.block i hi hn)⟩
  exact ⟨⟨h1, h2, (hg.block g hgl (fun e => by have := hr g e.symm; omega)).trans h3, h7.away h8⟩, h8, h6, h7⟩
/-- A block of the call's own that is no row's. -/
theorem own_new {w : World} {B : Nat} {e : TypeId} {z : Nat} {v : Value} {n : Nat} {xs : List Value} (h : w.ownsRow B e z v n xs) : some w.heap.size ≠ v.ownBlock := by
  rcases h.2 with ⟨rfl, _⟩ | ⟨k, cap, cur, rfl, hbg, hk, rest⟩
  · simp [Value.ownBlock]
  · simp only [Value.ownBlock, ne_eq, Option.some.injEq]
    have := (Array.getElem?_eq_some_iff.1 hk).1
    omega
theorem own_set4 {w : World} {B b : Nat} {e : TypeId} {v : Value} {n : Nat} {xs : List Value} (h : w.ownsRow B e 4 v n xs) (hb : some b ≠ v.ownBlock) (x1 x2 x3 x4 : Value) : ((((w.setCell ⟨b, 0, none⟩ x1).setCell ⟨b, 1, none⟩ x2).setCell ⟨b, 2, none⟩ x3).setCell ⟨b, 3, none⟩ x4).ownsRow B e 4 v n xs := by
  refine ⟨h.1, ?_⟩
  rcases h.2 with hn | ⟨k, cap, cur, hv, hbg, hk, rest⟩
  · exact .inl hn
  · have hne : k ≠ b := by rintro rfl; exact hb (by rw [hv]; rfl)
    refine .inr ⟨k, cap, cur, hv, hbg, ?_, rest⟩
    rw [Below.heap_setCell _ _ _ _ hne, Below.heap_setCell _ _ _ _ hne, Below.heap_setCell _ _ _ _ hne, Below.heap_setCell _ _ _ _ hne]
    exact hk
/-- How far a formula is read: the pieces from j on are left. -/
def LxAt (P : List Pc) (Z : LexZ) (j : Nat) (ts : List Tk) : Prop := Z = ahead ts (lexR (P.drop j) (flat (P.take j)).length) ∧ ts.length ≤ j
section
variable {P Y : List Pc} {Z : LexZ} {j : Nat} {ts : List Tk} {x : Pc}
theorem LxAt.start : LxAt P (lexR P 0) 0 [] := ⟨by rw [List.drop_zero, List.take_zero, flat_nil, ahead_nil]; rfl, Nat.le_refl _⟩
theorem LxAt.blank (h : LxAt P Z j ts) (hd : P.drop j = x :: Y) (hc : classZ (x.1 : Int) = 3) : LxAt P Z (j + 1) ts := by
  obtain ⟨h1, h2, h3⟩ := at_drop hd
  refine ⟨?_, by have := h.2; omega⟩
  rw [h.1, hd, lexR_blank x Y _ hc, h2, flat_split P j 1, hd, List.length_append, List.take_succ_cons, List.take_zero, flat_cons, flat_nil, List.append_nil]
theorem LxAt.none (h : LxAt P Z j ts) (hd : P.drop j = x :: Y) (hc : classZ (x.1 : Int) ≠ 3) (hf : tokF x Y = none) : Z = .error (flat (P.take j)).length := by
  rw [h.1, hd, lexR_none x Y _ hc hf]; rfl
theorem LxAt.some (h : LxAt P Z j ts) (hd : P.drop j = x :: Y) (hc : classZ (x.1 : Int) ≠ 3) {f : Fd} (hf : tokF x Y = some f) : LxAt P Z (j + 1 + f.j) (ts ++ [f.tk (flat (P.take j)).length]) ∧ j + 1 + f.j ≤ P.length := by
  obtain ⟨h1, h2, h3⟩ := at_drop hd
  have hj := tokF_len hf
  have hl := congrArg List.length hd
  rw [List.length_drop, List.length_cons] at hl
  refine ⟨⟨?_, by have := h.2; rw [List.length_append, List.length_singleton]; omega⟩, by omega⟩
  rw [h.1, hd, lexR_some x Y _ hc f hf, ahead_ahead, show j + 1 + f.j = j + (1 + f.j) by omega, flat_split P j (1 + f.j), List.length_append, hd, ← List.drop_drop, hd, show 1 + f.j = f.j + 1 by omega, List.take_succ_cons, List.drop_succ_cons]
theorem LxAt.over (h : LxAt P Z j ts) (hd : P.drop j = []) : Z = .ok ts := by
  rw [h.1, hd, lexR_nil]; simp [ahead]
end

theorem below_q1 {B : Nat} {a w : World} (h : Below B a w) (q : Nat) : Below B a (w.drewN q) := ⟨h.os, h.tape, h.output, h.size, h.block⟩
theorem LexEnd.deep {s : ByteArray} {w w' : World} (h : 400 < s.size) (hb : Below w.heap.size w w') : LexEnd s w (.returned (.tuple #[.slice none 0 0, .int .i64 400, .int .i64 7])) w' := ⟨hb, by rw [if_pos h]⟩
theorem LexEnd.no {s : ByteArray} {w w' : World} {p : Nat} (h : ¬ 400 < s.size) (hZ : lexL s.data.toList = .error p) (hb : Below w.heap.size w w') : LexEnd s w (.returned (.tuple #[.slice none 0 0, .int .i64 (p : Int), .int .i64 5])) w' := ⟨hb, by rw [if_neg h, hZ]⟩
theorem LexEnd.yes {s : ByteArray} {w w' : World} {ts : List Tk} {ao : Option Addr} {cap : Nat} (h : ¬ 400 < s.size) (hZ : lexL s.data.toList = .ok ts) (hb : Below w.heap.size w w') (hc : ts.length + 1 ≤ cap) (hT : TkAt w' ao (ts ++ [endT s.size])) : LexEnd s w (.returned (.tuple #[.slice ao (ts.length + 1 : Nat) cap, .int .i64 0, .int .i64 0])) w' := ⟨hb, by rw [if_neg h, hZ]; exact ⟨ao, cap, rfl, hc, hT⟩⟩

set_option maxHeartbeats 4000000 in
set_option maxRecDepth 1000000 in
theorem reflex_any (s : ByteArray) (w : World) (hs : s.size ≤ 1099511627776) :
    Calls Tryz.prog 49 #[.string s] w (LexEnd s w) := by
  by_cases hs4 : 400 < s.size
  · have hz : (400 : Int) < (s.size : Int) := by omega
    go_enter Tryz.func49, Tryz.ntmps49
    go_wp2
    exact bodyPost_ret (v := .tuple #[.slice none 0 0, .int .i64 400, .int .i64 7]) (by simp [results, Tryz.results49, go_sem]) rfl (LexEnd.deep hs4 (Below.refl _ _))
  · have hz : ¬ (400 : Int) < (s.size : Int) := by omega
    obtain ⟨i0, hi, hz0, hz1, hz2⟩ := info_parts (show (Tryz.prog.info? 71).map (fun i => (i.zero, i.size, i.bytes)) = some (some (.agg #[.int .i64 0, .string ⟨#[]⟩, .int .i64 0, .int .i64 0]), 4, 40) by kernel_rfl)
    obtain ⟨P, hP⟩ : ∃ P, pcs s.data.toList = P := ⟨_, rfl⟩
    have cP := pieces_P s P hP w hs
    obtain ⟨Z, hZ⟩ : ∃ Z, lexR P 0 = Z := ⟨_, rfl⟩
    have hZL : lexL s.data.toList = Z := by unfold lexL; rw [hP, hZ]
    have hst : LxAt P Z 0 [] := hZ ▸ LxAt.start
    have hPc : Pcd P := hP ▸ Pcd.of _
    have hPS : (flat P).length = s.size := by rw [← hP, flat_pcs, size_list]
    have hPl : P.length ≤ 400 := by have := flat_len hPc.fit; omega
    have HST := Lib.hid hst
    have HP := Lib.hid hP
    have HPC := Lib.hid hPc
    have HPS := Lib.hid hPS
    have HZ := Lib.hid hZL
    clear hst hP hPc hPS hZ hZL
    go_enter Tryz.func49, Tryz.ntmps49
    go_wp2_with fail
    refine cP.mono ?_
    rintro e w1 ⟨ao, cap, rfl, hnc, b1, hg⟩
    have hw1 := below_alloc w1 (.cells #[.string s, .slice ao P.length cap, .int .i64 0] 87)
    have hL : LR (w1.alloc (.cells #[.string s, .slice ao P.length cap, .int .i64 0] 87)) w1.heap.size s P ao cap 0 := ⟨Nat.zero_le _, hnc, heap_alloc_new w1 _, fun h0 => by
      obtain ⟨k, e, hk, hc⟩ := hg h0
      refine ⟨k, e, by omega, Nat.lt_of_lt_of_le hk hw1.size, fun i x hx => ?_⟩
      obtain ⟨a1, a2, a3, a4⟩ := hc i x hx
      exact ⟨(hw1.cell (p := ⟨k, i * 4, none⟩) hk).trans a1, (hw1.cell (p := ⟨k, i * 4 + 1, none⟩) hk).trans a2, (hw1.cell (p := ⟨k, i * 4 + 2, none⟩) hk).trans a3, (hw1.cell (p := ⟨k, i * 4 + 3, none⟩) hk).trans a4⟩⟩
    have hbw := below_to b1 hw1
    have hgw : w.heap.size ≤ w1.heap.size := b1.size
    clear cP hg b1 hw1
    go_upto_region 4 with fail
    generalize hw2 : w1.alloc (.cells #[.string s, .slice ao P.length cap, .int .i64 0] 87) = w2 at *
    generalize hgg : w1.heap.size = g at *
    have hgl := hL.lt
    have HL := Lib.hid (LA.start hL)
    have HBW := Lib.hid hbw
    have HR0 := Lib.hid (show w2.ownsRow w2.heap.size 71 4 (.slice none 0 0) ([] : List Tk).length (tkCells []) from World.ownsRow_nil _ _ _ _)
    clear hw2 hgg hL hbw
    go_wp2_with fail
    go_loopg [6] (P.length) (fun n s6 wr => ∃ (j : Nat) (ts : List Tk), j + n = P.length ∧ Hid (LA w2 wr g s P ao cap j) ∧ Hid (wr.ownsRow w2.heap.size 71 4 s6 ts.length (tkCells ts)) ∧ Hid (LxAt P Z j ts))
    case atStart => exact ⟨0, [], by omega, HL, HR0, HST⟩
    case round =>
      obtain ⟨j, ts, hjn, HA, HO, HX⟩ := hrel
      have HJN := Lib.hid hjn
      clear HL HR0 HST
      go_wp2_with fail
      go_loopg [] (P.length - j) (fun n wy => ∃ i : Nat, i + n = P.length ∧ j ≤ i ∧ Hid (LA w2 wy g s P ao cap i) ∧ Hid (wy.ownsRow w2.heap.size 71 4 u6 ts.length (tkCells ts)) ∧ Hid (LxAt P Z i ts))
      case atStart => exact ⟨j, by omega, Nat.le_refl _, HA, HO, HX⟩
      case round =>
        obtain ⟨i, hin, hji, HA2, HO2, HX2⟩ := hrel
        clear HA HO HX hjn
        have cC0 := lclass_any g s P ao cap i wr HA2.out.1
        have cC := fun q => lclass_any g s P ao cap i (wr.drewN q) (HA2.out.q q).1
        obtain ⟨c0, c1, c2, f2⟩ := HA2.out.1.cells
        have htl : ts.length ≤ 400 := by have := HX2.out.2; omega
        cases hY : P.drop i with
        | nil =>
          simp only [hY, clsY] at cC cC0
          have hfin := HX2.out.over hY
          have HF := Lib.hid hfin
          have hszy : w2.heap.size ≤ wr.heap.size := HA2.out.2.1.size
          clear hY hfin
          go_wp2_with fail
          refine cC0.mono ?_
          rintro e wa ⟨rfl, q1, rfl⟩
          clear cC0
          go_wp2_with fail
          refine (cC _).mono ?_
          rintro e wb ⟨rfl, q2, rfl⟩
          clear cC
          have hA3 := (HA2.out.q q1).q q2
          have hO3 := own_later (own_later HO2.out (below_still ⟨q1, rfl⟩)) (below_still ⟨q2, rfl⟩)
          generalize hw5 : (wr.drewN q1).drewN q2 = w5 at *
          have HOWN := Lib.hid hO3
          have HA3 := Lib.hid hA3
          clear hw5 hO3 hA3 c0 c1 c2 f2
          go_wp2_with (at_builtin; refine wpList_append_own _ rfl _ _ 67 rfl w2.heap.size 71 i0 _ 4 40 Tryz.underlying67 hi hz0 hz1 hz2 rfl (by decide) _ _ _ rfl (HOWN.out.alloc _) ⟨w5.heap.size, 0, none⟩ 1 1 [.int .i64 0, .string ⟨#[]⟩, .int .i64 0, .int .i64 (s.size : Int)] rfl rfl ?c1 ?c2 ?c3 ?c4 ?c5 ?_)
          case c1 => exact four_news _ _ _ _ _ _
          case c2 => exact four_cells _ _ _ _
          case c3 => unfold maxLen; omega
          case c4 => omega
          case c5 => rw [alloc_size]; have := HA3.out.2.1.size; omega
          intro v' wC hown' hgrow _
          have hbC : Below w.heap.size w wC := HBW.out.trans (((HA3.out.alloc _).grown hgrow (fun k hk => (HOWN.out.lt k hk).1)).2.1.below (by omega) (HBW.out.size))
          obtain ⟨ao2, cap2, rfl, hcap2, hTk⟩ := tk_end hown'
          go_wp2_with fail
          exact bodyPost_ret (v := .tuple #[.slice ao2 (ts.length + 1 : Nat) cap2, .int .i64 0, .int .i64 0]) (by simp [results, Tryz.results49, go_sem]) rfl (LexEnd.yes hs4 (by rw [HZ.out, HF.out]) hbC hcap2 hTk)
        | cons x Y =>
          simp only [hY, clsY] at cC cC0
          by_cases hc3 : classZ (x.1 : Int) = 3
          · simp only [hc3] at cC0
            have hX3 := HX2.out.blank hY hc3
            obtain ⟨-, -, hil⟩ := at_drop hY
            have HX3 := Lib.hid hX3
            clear hX3 hY hc3 cC
            go_wp2_with fail
            refine cC0.mono ?_
            rintro e wa ⟨rfl, q1, rfl⟩
            clear cC0
            go_wp2_with fail
            go_roundg (gk - 1)
            case measure => omega
            case rel => exact ⟨i + 1, by omega, by omega, Lib.hid ((HA2.out.q q1).goes (by omega) (by omega)), Lib.hid (own_away (own_later HO2.out (below_still ⟨q1, rfl⟩)) ((Away.refl g _).set 2 _) hgl), HX3⟩
          · have hn3 : (classZ (x.1 : Int) == 3) = false := beq_eq_false_iff_ne.2 hc3
            obtain ⟨hpx, hYd, hil⟩ := at_drop hY
            have hlt0 : ¬ classZ (x.1 : Int) < 0 := by rcases class_cases (x.1 : Int) with ⟨h, _⟩ | ⟨h, _⟩ | ⟨h, _⟩ | ⟨h, _⟩ <;> omega
            obtain ⟨bp, rfl, -, -, p2, p3⟩ := HA2.out.1.piece hpx
            have HY := Lib.hid hY
            have HC3 := Lib.hid hc3
            have hszy : w2.heap.size ≤ wr.heap.size := HA2.out.2.1.size
            by_cases hc2 : classZ (x.1 : Int) = 2
            · have hT : tokF x Y = numF x Y := by unfold tokF; rw [if_pos hc2]
              have cT : ∀ wT, LR wT g s P (some ⟨bp, 0, none⟩) cap i → Calls Tryz.prog 67 #[.pointer (some ⟨g, 0, none⟩)] wT (LTok wT g s P (some ⟨bp, 0, none⟩) cap i (numF x Y)) := fun wT hL => lnum_any g s P (some ⟨bp, 0, none⟩) cap i x Y wT hL HPS.out (by omega) HPC.out HY.out hc2
              rw [← hT] at cT
              simp only [hc2] at cC cC0
              obtain ⟨O, hO⟩ : ∃ O, tokF x Y = O := ⟨_, rfl⟩
              rw [hO] at cT
              have HTO := Lib.hid hO
              clear hT hO hc3 hY hc2 p2 p3 hn3 hlt0
              go_wp2_with fail
              refine cC0.mono ?_
              rintro e wa ⟨rfl, q1, rfl⟩
              clear cC0
              go_wp2_with fail
              refine (cC _).mono ?_
              rintro e wb ⟨rfl, q2, rfl⟩
              clear cC
              have hA3 := (HA2.out.q q1).q q2
              have hO3 := own_later (own_later HO2.out (below_still ⟨q1, rfl⟩)) (below_still ⟨q2, rfl⟩)
              generalize hw5 : (wr.drewN q1).drewN q2 = w5 at *
              have hne5 : some w5.heap.size ≠ u6.ownBlock := own_new hO3
              have hb6 := below_alloc w5 (.cells #[.int .i64 0, .string ⟨#[]⟩, .int .i64 0, .int .i64 0] 71)
              have hF6 := four_new w5 (.int .i64 0) (.string ⟨#[]⟩) (.int .i64 0) (.int .i64 0) 71
              have hA6 := hA3.later hb6
              have hO6 := own_later hO3 hb6
              have hs5 : w2.heap.size ≤ w5.heap.size := hA3.2.1.size
              have hg5 : g ≠ w5.heap.size := by omega
              clear c0 c1 c2 f2 hA3 hO3 hw5
              go_upto_region 10 with fail
              generalize hw6 : w5.alloc (.cells #[.int .i64 0, .string ⟨#[]⟩, .int .i64 0, .int .i64 0] 71) = w6 at *
              generalize hbb : w5.heap.size = b at *
              clear hw6 hb6 hbb
              have HA6 := Lib.hid hA6
              have HO6 := Lib.hid hO6
              have hA7 := hA6
              have hO7 := hO6
              have hF7 := hF6
              generalize hw7 : w6 = w7 at *
              clear hw7 hA6 hO6 hF6 HA6 HO6
              have cT7 := cT w7 hA7.1
              have HA7 := Lib.hid hA7
              have HO7 := Lib.hid hO7
              have HF7 := Lib.hid hF7
              clear cT hA7 hO7 hF7
              cases O with
              | none =>
                have hfin := HX2.out.none HY.out HC3.out HTO.out
                have HF := Lib.hid hfin
                obtain ⟨h0, hh0⟩ : ∃ n : Nat, (flat (P.take i)).length = n := ⟨_, rfl⟩
                unfold LTok at cT7
                rw [hh0] at cT7
                have HH := Lib.hid hh0
                clear hfin hh0
                go_wp2_with fail
                refine cT7.mono ?_
                rintro e w8 ⟨hw8, K8, S8, n8, rfl⟩
                have hA8 := HA7.out.2.1.trans hw8
                obtain ⟨fl, z0, z1, z2, z3, f0, f1, f2, f3⟩ := HF7.out.away hw8 hg5.symm
                clear cT7 hw8
                go_wp2_with fail
                go_quiet (fail)
                go_wp2_with fail
                have hA9 := ((((hA8.put hs5 0 (.int .i64 K8)).put hs5 1 (.string S8)).put hs5 2 (.int .i64 n8)).put hs5 3 (.int .i64 (h0 : Int)))
                exact bodyPost_ret (v := .tuple #[.slice none 0 0, .int .i64 (h0 : Int), .int .i64 5]) (by simp [results, Tryz.results49, go_sem]) rfl (LexEnd.no hs4 (by rw [HZ.out, HF.out, HH.out]) (below_q1 (HBW.out.trans (hA9.below (by omega) HBW.out.size)) _))
              | some f =>
                obtain ⟨hX3, hjl⟩ := HX2.out.some HY.out HC3.out HTO.out
                obtain ⟨h0, hh0⟩ : ∃ n : Nat, (flat (P.take i)).length = n := ⟨_, rfl⟩
                unfold LTok at cT7
                rw [hh0] at cT7 hX3
                have htk : f.tk h0 = ⟨f.k, f.s, f.n, h0⟩ := rfl
                rw [htk] at hX3
                dsimp only at cT7
                generalize f.k = K4 at cT7 hX3
                generalize f.n = N4 at cT7 hX3
                generalize f.j = m4 at cT7 hX3 hjl
                obtain ⟨S4, hS4⟩ : ∃ S4 : ByteArray, (⟨f.s.toArray⟩ : ByteArray) = S4 := ⟨_, rfl⟩
                rw [hS4] at cT7
                have HX3 := Lib.hid hX3
                have HS4 := Lib.hid hS4
                clear hX3 hS4 hh0 htk
                go_wp2_with fail
                refine cT7.mono ?_
                rintro e w8 ⟨hw8, rfl, hL8⟩
                have hA8 := HA7.out.step hL8 hw8
                have hO8 := own_away HO7.out hw8 hgl
                have hF8 := HF7.out.away hw8 hg5.symm
                obtain ⟨fl, z0, z1, z2, z3, f0, f1, f2, f3⟩ := hF8
                have HA8 := Lib.hid hA8
                have HO8 := Lib.hid hO8
                have hs8 : w2.heap.size ≤ w8.heap.size := hA8.2.1.size
                clear cT7 hw8 hL8 hA8 hO8
                go_upto_region 20 with fail
                have hA9 := ((((HA8.out.put hs5 0 (.int .i64 (K4 : Int))).put hs5 1 (.string S4)).put hs5 2 (.int .i64 (N4 : Int))).put hs5 3 (.int .i64 (h0 : Int)))
                have hF9 := (show Four w8 b _ _ _ _ from ⟨fl, z0, z1, z2, z3, f0, f1, f2, f3⟩).set (.int .i64 (K4 : Int)) (.string S4) (.int .i64 (N4 : Int)) (.int .i64 (h0 : Int))
                have hO9 := own_set4 HO8.out hne5 (.int .i64 (K4 : Int)) (.string S4) (.int .i64 (N4 : Int)) (.int .i64 (h0 : Int))
                generalize hw9 : (((w8.setCell ⟨b, 0, none⟩ (.int .i64 (K4 : Int))).setCell ⟨b, 1, none⟩ (.string S4)).setCell ⟨b, 2, none⟩ (.int .i64 (N4 : Int))).setCell ⟨b, 3, none⟩ (.int .i64 (h0 : Int)) = w9 at *
                clear hw9 z0 z1 z2 z3 f0 f1 f2 f3 fl
                obtain ⟨fl, z0, z1, z2, z3, f0, f1, f2, f3⟩ := hF9
                have HOWN := Lib.hid hO9
                have HA9 := Lib.hid hA9
                clear hO9 hA9
                go_wp2_with (at_builtin; refine wpList_append_own _ rfl _ _ 67 rfl w2.heap.size 71 i0 _ 4 40 Tryz.underlying67 hi hz0 hz1 hz2 rfl (by decide) _ _ _ rfl (HOWN.out.alloc _) ⟨w9.heap.size, 0, none⟩ 1 1 [.int .i64 (K4 : Int), .string S4, .int .i64 (N4 : Int), .int .i64 (h0 : Int)] rfl rfl ?c1 ?c2 ?c3 ?c4 ?c5 ?_)
                case c1 => exact four_news _ _ _ _ _ _
                case c2 => exact four_cells _ _ _ _
                case c3 => unfold maxLen; omega
                case c4 => omega
                case c5 => rw [alloc_size]; have := HA9.out.2.1.size; omega
                intro v' wC hown' hgrow _
                have hAC := (HA9.out.alloc _).grown hgrow (fun k hk => (HOWN.out.lt k hk).1)
                have hOC : wC.ownsRow w2.heap.size 71 4 v' (ts ++ [(⟨K4, f.s, N4, h0⟩ : Tk)]).length (tkCells (ts ++ [(⟨K4, f.s, N4, h0⟩ : Tk)])) := by
                  rw [List.length_append, List.length_singleton, tkCells_snoc]
                  have := HS4.out
                  subst this
                  exact hown'
                have HAC := Lib.hid hAC
                have HOC := Lib.hid hOC
                clear hAC hOC hown' hgrow z0 z1 z2 z3 f0 f1 f2 f3 fl
                go_wp2_with fail
                go_roundg (P.length - (i + 1 + m4))
                case measure => have := HJN.out; omega
                case rel => exact ⟨i + 1 + m4, _, by omega, HAC, HOC, HX3⟩
            · by_cases hc1 : classZ (x.1 : Int) = 1
              · have hT : tokF x Y = nameF x Y := by unfold tokF; rw [if_neg hc2, if_pos hc1]
                have cT : ∀ wT, LR wT g s P (some ⟨bp, 0, none⟩) cap i → Calls Tryz.prog 68 #[.pointer (some ⟨g, 0, none⟩)] wT (LTok wT g s P (some ⟨bp, 0, none⟩) cap i (nameF x Y)) := fun wT hL => lname_any g s P (some ⟨bp, 0, none⟩) cap i x Y wT hL HP.out (by omega) HY.out hc1
                rw [← hT] at cT
                simp only [hc1] at cC cC0
                obtain ⟨O, hO⟩ : ∃ O, tokF x Y = O := ⟨_, rfl⟩
                rw [hO] at cT
                have HTO := Lib.hid hO
                clear hT hO hc3 hY hc1 hc2 p2 p3 hn3 hlt0
                go_wp2_with fail
                refine cC0.mono ?_
                rintro e wa ⟨rfl, q1, rfl⟩
                clear cC0
                go_wp2_with fail
                refine (cC _).mono ?_
                rintro e wb ⟨rfl, q2, rfl⟩
                clear cC
                have hA3 := (HA2.out.q q1).q q2
                have hO3 := own_later (own_later HO2.out (below_still ⟨q1, rfl⟩)) (below_still ⟨q2, rfl⟩)
                generalize hw5 : (wr.drewN q1).drewN q2 = w5 at *
                have hne5 : some w5.heap.size ≠ u6.ownBlock := own_new hO3
                have hb6 := below_alloc w5 (.cells #[.int .i64 0, .string ⟨#[]⟩, .int .i64 0, .int .i64 0] 71)
                have hF6 := four_new w5 (.int .i64 0) (.string ⟨#[]⟩) (.int .i64 0) (.int .i64 0) 71
                have hA6 := hA3.later hb6
                have hO6 := own_later hO3 hb6
                have hs5 : w2.heap.size ≤ w5.heap.size := hA3.2.1.size
                have hg5 : g ≠ w5.heap.size := by omega
                clear c0 c1 c2 f2 hA3 hO3 hw5
                go_upto_region 10 with fail
                generalize hw6 : w5.alloc (.cells #[.int .i64 0, .string ⟨#[]⟩, .int .i64 0, .int .i64 0] 71) = w6 at *
                generalize hbb : w5.heap.size = b at *
                clear hw6 hb6 hbb
                have HA6 := Lib.hid hA6
                have HO6 := Lib.hid hO6
                have hA7 := hA6
                have hO7 := hO6
                have hF7 := hF6
                generalize hw7 : w6 = w7 at *
                clear hw7 hA6 hO6 hF6 HA6 HO6
                have cT7 := cT w7 hA7.1
                have HA7 := Lib.hid hA7
                have HO7 := Lib.hid hO7
                have HF7 := Lib.hid hF7
                clear cT hA7 hO7 hF7
                cases O with
                | none =>
                  have hfin := HX2.out.none HY.out HC3.out HTO.out
                  have HF := Lib.hid hfin
                  obtain ⟨h0, hh0⟩ : ∃ n : Nat, (flat (P.take i)).length = n := ⟨_, rfl⟩
                  unfold LTok at cT7
                  rw [hh0] at cT7
                  have HH := Lib.hid hh0
                  clear hfin hh0
                  go_wp2_with fail
                  refine cT7.mono ?_
                  rintro e w8 ⟨hw8, K8, S8, n8, rfl⟩
                  have hA8 := HA7.out.2.1.trans hw8
                  obtain ⟨fl, z0, z1, z2, z3, f0, f1, f2, f3⟩ := HF7.out.away hw8 hg5.symm
                  clear cT7 hw8
                  go_wp2_with fail
                  go_quiet (fail)
                  go_wp2_with fail
                  have hA9 := ((((hA8.put hs5 0 (.int .i64 K8)).put hs5 1 (.string S8)).put hs5 2 (.int .i64 n8)).put hs5 3 (.int .i64 (h0 : Int)))
                  exact bodyPost_ret (v := .tuple #[.slice none 0 0, .int .i64 (h0 : Int), .int .i64 5]) (by simp [results, Tryz.results49, go_sem]) rfl (LexEnd.no hs4 (by rw [HZ.out, HF.out, HH.out]) (below_q1 (HBW.out.trans (hA9.below (by omega) HBW.out.size)) _))
                | some f =>
                  obtain ⟨hX3, hjl⟩ := HX2.out.some HY.out HC3.out HTO.out
                  obtain ⟨h0, hh0⟩ : ∃ n : Nat, (flat (P.take i)).length = n := ⟨_, rfl⟩
                  unfold LTok at cT7
                  rw [hh0] at cT7 hX3
                  have htk : f.tk h0 = ⟨f.k, f.s, f.n, h0⟩ := rfl
                  rw [htk] at hX3
                  dsimp only at cT7
                  generalize f.k = K4 at cT7 hX3
                  generalize f.n = N4 at cT7 hX3
                  generalize f.j = m4 at cT7 hX3 hjl
                  obtain ⟨S4, hS4⟩ : ∃ S4 : ByteArray, (⟨f.s.toArray⟩ : ByteArray) = S4 := ⟨_, rfl⟩
                  rw [hS4] at cT7
                  have HX3 := Lib.hid hX3
                  have HS4 := Lib.hid hS4
                  clear hX3 hS4 hh0 htk
                  go_wp2_with fail
                  refine cT7.mono ?_
                  rintro e w8 ⟨hw8, rfl, hL8⟩
                  have hA8 := HA7.out.step hL8 hw8
                  have hO8 := own_away HO7.out hw8 hgl
                  have hF8 := HF7.out.away hw8 hg5.symm
                  obtain ⟨fl, z0, z1, z2, z3, f0, f1, f2, f3⟩ := hF8
                  have HA8 := Lib.hid hA8
                  have HO8 := Lib.hid hO8
                  have hs8 : w2.heap.size ≤ w8.heap.size := hA8.2.1.size
                  clear cT7 hw8 hL8 hA8 hO8
                  go_upto_region 20 with fail
                  have hA9 := ((((HA8.out.put hs5 0 (.int .i64 (K4 : Int))).put hs5 1 (.string S4)).put hs5 2 (.int .i64 (N4 : Int))).put hs5 3 (.int .i64 (h0 : Int)))
                  have hF9 := (show Four w8 b _ _ _ _ from ⟨fl, z0, z1, z2, z3, f0, f1, f2, f3⟩).set (.int .i64 (K4 : Int)) (.string S4) (.int .i64 (N4 : Int)) (.int .i64 (h0 : Int))
                  have hO9 := own_set4 HO8.out hne5 (.int .i64 (K4 : Int)) (.string S4) (.int .i64 (N4 : Int)) (.int .i64 (h0 : Int))
                  generalize hw9 : (((w8.setCell ⟨b, 0, none⟩ (.int .i64 (K4 : Int))).setCell ⟨b, 1, none⟩ (.string S4)).setCell ⟨b, 2, none⟩ (.int .i64 (N4 : Int))).setCell ⟨b, 3, none⟩ (.int .i64 (h0 : Int)) = w9 at *
                  clear hw9 z0 z1 z2 z3 f0 f1 f2 f3 fl
                  obtain ⟨fl, z0, z1, z2, z3, f0, f1, f2, f3⟩ := hF9
                  have HOWN := Lib.hid hO9
                  have HA9 := Lib.hid hA9
                  clear hO9 hA9
                  go_wp2_with (at_builtin; refine wpList_append_own _ rfl _ _ 67 rfl w2.heap.size 71 i0 _ 4 40 Tryz.underlying67 hi hz0 hz1 hz2 rfl (by decide) _ _ _ rfl (HOWN.out.alloc _) ⟨w9.heap.size, 0, none⟩ 1 1 [.int .i64 (K4 : Int), .string S4, .int .i64 (N4 : Int), .int .i64 (h0 : Int)] rfl rfl ?c1 ?c2 ?c3 ?c4 ?c5 ?_)
                  case c1 => exact four_news _ _ _ _ _ _
                  case c2 => exact four_cells _ _ _ _
                  case c3 => unfold maxLen; omega
                  case c4 => omega
                  case c5 => rw [alloc_size]; have := HA9.out.2.1.size; omega
                  intro v' wC hown' hgrow _
                  have hAC := (HA9.out.alloc _).grown hgrow (fun k hk => (HOWN.out.lt k hk).1)
                  have hOC : wC.ownsRow w2.heap.size 71 4 v' (ts ++ [(⟨K4, f.s, N4, h0⟩ : Tk)]).length (tkCells (ts ++ [(⟨K4, f.s, N4, h0⟩ : Tk)])) := by
                    rw [List.length_append, List.length_singleton, tkCells_snoc]
                    have := HS4.out
                    subst this
                    exact hown'
                  have HAC := Lib.hid hAC
                  have HOC := Lib.hid hOC
                  clear hAC hOC hown' hgrow z0 z1 z2 z3 f0 f1 f2 f3 fl
                  go_wp2_with fail
                  go_roundg (P.length - (i + 1 + m4))
                  case measure => have := HJN.out; omega
                  case rel => exact ⟨i + 1 + m4, _, by omega, HAC, HOC, HX3⟩
              · have hn2 : (classZ (x.1 : Int) == 2) = false := beq_eq_false_iff_ne.2 hc2
                have hn1 : (classZ (x.1 : Int) == 1) = false := beq_eq_false_iff_ne.2 hc1
                by_cases h34 : x.1 = 34
                · have hT : tokF x Y = textT Y := by unfold tokF; rw [if_neg hc2, if_neg hc1, if_pos h34]
                  have cT : ∀ wT, LR wT g s P (some ⟨bp, 0, none⟩) cap i → Calls Tryz.prog 69 #[.pointer (some ⟨g, 0, none⟩)] wT (LTok wT g s P (some ⟨bp, 0, none⟩) cap i (textT Y)) := fun wT hL => hYd ▸ ltext_any g s P (some ⟨bp, 0, none⟩) cap i wT hL HP.out (by omega) hil
                  rw [← hT] at cT
                  have h34z : ((x.1 : Int) == 34) = true := by rw [h34]; rfl
                  have hbx : decide (bad x) = false := decide_eq_false (fun h => by have := h.1; omega)
                  rw [hbx] at p3
                  obtain ⟨c, hc⟩ : ∃ c, classZ (x.1 : Int) = c := ⟨_, rfl⟩
                  simp only [hc] at cC cC0 hn3 hn2 hn1 hlt0
                  clear hc
                  obtain ⟨O, hO⟩ : ∃ O, tokF x Y = O := ⟨_, rfl⟩
                  rw [hO] at cT
                  have HTO := Lib.hid hO
                  clear hT hO hc3 hY hc1 hc2 h34 hbx
                  go_wp2_with fail
                  refine cC0.mono ?_
                  rintro e wa ⟨rfl, q1, rfl⟩
                  clear cC0
                  go_wp2_with fail
                  refine (cC _).mono ?_
                  rintro e wb ⟨rfl, q2, rfl⟩
                  clear cC
                  have hA3 := (HA2.out.q q1).q q2
                  have hO3 := own_later (own_later HO2.out (below_still ⟨q1, rfl⟩)) (below_still ⟨q2, rfl⟩)
                  have p2w : ((wr.drewN q1).drewN q2).cell? ⟨bp, i * 4 + 2, none⟩ = some (.int .i32 (x.1 : Int)) := p2
                  have p3w : ((wr.drewN q1).drewN q2).cell? ⟨bp, i * 4 + 3, none⟩ = some (.bool false) := p3
                  have hbl2 : bp < ((wr.drewN q1).drewN q2).heap.size := Lib.lt_of_cell p2w
                  generalize hw5 : (wr.drewN q1).drewN q2 = w5 at *
                  have hne5 : some w5.heap.size ≠ u6.ownBlock := own_new hO3
                  have hb6 := below_alloc w5 (.cells #[.int .i64 0, .string ⟨#[]⟩, .int .i64 0, .int .i64 0] 71)
                  have hF6 := four_new w5 (.int .i64 0) (.string ⟨#[]⟩) (.int .i64 0) (.int .i64 0) 71
                  have hA6 := hA3.later hb6
                  have hO6 := own_later hO3 hb6
                  have hs5 : w2.heap.size ≤ w5.heap.size := hA3.2.1.size
                  have hg5 : g ≠ w5.heap.size := by omega
                  have p2v := (hb6.cell (p := ⟨bp, i * 4 + 2, none⟩) hbl2).trans p2w
                  have p3v := (hb6.cell (p := ⟨bp, i * 4 + 3, none⟩) hbl2).trans p3w
                  clear p2w p3w p2 p3
                  clear c0 c1 c2 f2 hA3 hO3 hw5
                  go_upto_region 10 with fail
                  generalize hw6 : w5.alloc (.cells #[.int .i64 0, .string ⟨#[]⟩, .int .i64 0, .int .i64 0] 71) = w6 at *
                  generalize hbb : w5.heap.size = b at *
                  clear hw6 hb6 hbb
                  have HA6 := Lib.hid hA6
                  have HO6 := Lib.hid hO6
                  obtain ⟨c0, c1, c2, f2⟩ := hA6.1.cells
                  have hiz : (i : Int) < (P.length : Int) := by omega
                  clear hA6 hO6
                  go_wp2_with fail
                  go_quiet (fail)
                  clear c0 c1 c2 f2 p2v p3v
                  have hA7 := HA6.out.q nq
                  have hO7 := own_later HO6.out (below_still ⟨nq, rfl⟩)
                  have hF7 := hF6.later (below_still ⟨nq, rfl⟩)
                  generalize hw7 : w6.drewN nq = w7 at *
                  clear hw7 hF6 HA6 HO6
                  have cT7 := cT w7 hA7.1
                  have HA7 := Lib.hid hA7
                  have HO7 := Lib.hid hO7
                  have HF7 := Lib.hid hF7
                  clear cT hA7 hO7 hF7
                  cases O with
                  | none =>
                    have hfin := HX2.out.none HY.out HC3.out HTO.out
                    have HF := Lib.hid hfin
                    obtain ⟨h0, hh0⟩ : ∃ n : Nat, (flat (P.take i)).length = n := ⟨_, rfl⟩
                    unfold LTok at cT7
                    rw [hh0] at cT7
                    have HH := Lib.hid hh0
                    clear hfin hh0
                    go_wp2_with fail
                    refine cT7.mono ?_
                    rintro e w8 ⟨hw8, K8, S8, n8, rfl⟩
                    have hA8 := HA7.out.2.1.trans hw8
                    obtain ⟨fl, z0, z1, z2, z3, f0, f1, f2, f3⟩ := HF7.out.away hw8 hg5.symm
                    clear cT7 hw8
                    go_wp2_with fail
                    go_quiet (fail)
                    go_wp2_with fail
                    have hA9 := ((((hA8.put hs5 0 (.int .i64 K8)).put hs5 1 (.string S8)).put hs5 2 (.int .i64 n8)).put hs5 3 (.int .i64 (h0 : Int)))
                    exact bodyPost_ret (v := .tuple #[.slice none 0 0, .int .i64 (h0 : Int), .int .i64 5]) (by simp [results, Tryz.results49, go_sem]) rfl (LexEnd.no hs4 (by rw [HZ.out, HF.out, HH.out]) (below_q1 (HBW.out.trans (hA9.below (by omega) HBW.out.size)) _))
                  | some f =>
                    obtain ⟨hX3, hjl⟩ := HX2.out.some HY.out HC3.out HTO.out
                    obtain ⟨h0, hh0⟩ : ∃ n : Nat, (flat (P.take i)).length = n := ⟨_, rfl⟩
                    unfold LTok at cT7
                    rw [hh0] at cT7 hX3
                    have htk : f.tk h0 = ⟨f.k, f.s, f.n, h0⟩ := rfl
                    rw [htk] at hX3
                    dsimp only at cT7
                    generalize f.k = K4 at cT7 hX3
                    generalize f.n = N4 at cT7 hX3
                    generalize f.j = m4 at cT7 hX3 hjl
                    obtain ⟨S4, hS4⟩ : ∃ S4 : ByteArray, (⟨f.s.toArray⟩ : ByteArray) = S4 := ⟨_, rfl⟩
                    rw [hS4] at cT7
                    have HX3 := Lib.hid hX3
                    have HS4 := Lib.hid hS4
                    clear hX3 hS4 hh0 htk
                    go_wp2_with fail
                    refine cT7.mono ?_
                    rintro e w8 ⟨hw8, rfl, hL8⟩
                    have hA8 := HA7.out.step hL8 hw8
                    have hO8 := own_away HO7.out hw8 hgl
                    have hF8 := HF7.out.away hw8 hg5.symm
                    obtain ⟨fl, z0, z1, z2, z3, f0, f1, f2, f3⟩ := hF8
                    have HA8 := Lib.hid hA8
                    have HO8 := Lib.hid hO8
                    have hs8 : w2.heap.size ≤ w8.heap.size := hA8.2.1.size
                    clear cT7 hw8 hL8 hA8 hO8
                    go_upto_region 20 with fail
                    have hA9 := ((((HA8.out.put hs5 0 (.int .i64 (K4 : Int))).put hs5 1 (.string S4)).put hs5 2 (.int .i64 (N4 : Int))).put hs5 3 (.int .i64 (h0 : Int)))
                    have hF9 := (show Four w8 b _ _ _ _ from ⟨fl, z0, z1, z2, z3, f0, f1, f2, f3⟩).set (.int .i64 (K4 : Int)) (.string S4) (.int .i64 (N4 : Int)) (.int .i64 (h0 : Int))
                    have hO9 := own_set4 HO8.out hne5 (.int .i64 (K4 : Int)) (.string S4) (.int .i64 (N4 : Int)) (.int .i64 (h0 : Int))
                    generalize hw9 : (((w8.setCell ⟨b, 0, none⟩ (.int .i64 (K4 : Int))).setCell ⟨b, 1, none⟩ (.string S4)).setCell ⟨b, 2, none⟩ (.int .i64 (N4 : Int))).setCell ⟨b, 3, none⟩ (.int .i64 (h0 : Int)) = w9 at *
                    clear hw9 z0 z1 z2 z3 f0 f1 f2 f3 fl
                    obtain ⟨fl, z0, z1, z2, z3, f0, f1, f2, f3⟩ := hF9
                    have HOWN := Lib.hid hO9
                    have HA9 := Lib.hid hA9
                    clear hO9 hA9
                    go_wp2_with (at_builtin; refine wpList_append_own _ rfl _ _ 67 rfl w2.heap.size 71 i0 _ 4 40 Tryz.underlying67 hi hz0 hz1 hz2 rfl (by decide) _ _ _ rfl (HOWN.out.alloc _) ⟨w9.heap.size, 0, none⟩ 1 1 [.int .i64 (K4 : Int), .string S4, .int .i64 (N4 : Int), .int .i64 (h0 : Int)] rfl rfl ?c1 ?c2 ?c3 ?c4 ?c5 ?_)
                    case c1 => exact four_news _ _ _ _ _ _
                    case c2 => exact four_cells _ _ _ _
                    case c3 => unfold maxLen; omega
                    case c4 => omega
                    case c5 => rw [alloc_size]; have := HA9.out.2.1.size; omega
                    intro v' wC hown' hgrow _
                    have hAC := (HA9.out.alloc _).grown hgrow (fun k hk => (HOWN.out.lt k hk).1)
                    have hOC : wC.ownsRow w2.heap.size 71 4 v' (ts ++ [(⟨K4, f.s, N4, h0⟩ : Tk)]).length (tkCells (ts ++ [(⟨K4, f.s, N4, h0⟩ : Tk)])) := by
                      rw [List.length_append, List.length_singleton, tkCells_snoc]
                      have := HS4.out
                      subst this
                      exact hown'
                    have HAC := Lib.hid hAC
                    have HOC := Lib.hid hOC
                    clear hAC hOC hown' hgrow z0 z1 z2 z3 f0 f1 f2 f3 fl
                    go_wp2_with fail
                    go_roundg (P.length - (i + 1 + m4))
                    case measure => have := HJN.out; omega
                    case rel => exact ⟨i + 1 + m4, _, by omega, HAC, HOC, HX3⟩
                · have hT : tokF x Y = signF x Y := by unfold tokF; rw [if_neg hc2, if_neg hc1, if_neg h34]
                  have cT : ∀ wT, LR wT g s P (some ⟨bp, 0, none⟩) cap i → Calls Tryz.prog 70 #[.pointer (some ⟨g, 0, none⟩)] wT (LTok wT g s P (some ⟨bp, 0, none⟩) cap i (signF x Y)) := fun wT hL => lsign_any g s P (some ⟨bp, 0, none⟩) cap i x Y wT hL HP.out (by omega) HY.out
                  rw [← hT] at cT
                  have h34z : ((x.1 : Int) == 34) = false := beq_eq_false_iff_ne.2 (by omega)
                  obtain ⟨c, hc⟩ : ∃ c, classZ (x.1 : Int) = c := ⟨_, rfl⟩
                  simp only [hc] at cC cC0 hn3 hn2 hn1 hlt0
                  clear hc
                  obtain ⟨O, hO⟩ : ∃ O, tokF x Y = O := ⟨_, rfl⟩
                  rw [hO] at cT
                  have HTO := Lib.hid hO
                  clear hT hO hc3 hY hc1 hc2 h34
                  go_wp2_with fail
                  refine cC0.mono ?_
                  rintro e wa ⟨rfl, q1, rfl⟩
                  clear cC0
                  go_wp2_with fail
                  refine (cC _).mono ?_
                  rintro e wb ⟨rfl, q2, rfl⟩
                  clear cC
                  have hA3 := (HA2.out.q q1).q q2
                  have hO3 := own_later (own_later HO2.out (below_still ⟨q1, rfl⟩)) (below_still ⟨q2, rfl⟩)
                  have p2w : ((wr.drewN q1).drewN q2).cell? ⟨bp, i * 4 + 2, none⟩ = some (.int .i32 (x.1 : Int)) := p2
                  have p3w : ((wr.drewN q1).drewN q2).cell? ⟨bp, i * 4 + 3, none⟩ = some (.bool (decide (bad x))) := p3
                  have hbl2 : bp < ((wr.drewN q1).drewN q2).heap.size := Lib.lt_of_cell p2w
                  generalize hw5 : (wr.drewN q1).drewN q2 = w5 at *
                  have hne5 : some w5.heap.size ≠ u6.ownBlock := own_new hO3
                  have hb6 := below_alloc w5 (.cells #[.int .i64 0, .string ⟨#[]⟩, .int .i64 0, .int .i64 0] 71)
                  have hF6 := four_new w5 (.int .i64 0) (.string ⟨#[]⟩) (.int .i64 0) (.int .i64 0) 71
                  have hA6 := hA3.later hb6
                  have hO6 := own_later hO3 hb6
                  have hs5 : w2.heap.size ≤ w5.heap.size := hA3.2.1.size
                  have hg5 : g ≠ w5.heap.size := by omega
                  have p2v := (hb6.cell (p := ⟨bp, i * 4 + 2, none⟩) hbl2).trans p2w
                  have p3v := (hb6.cell (p := ⟨bp, i * 4 + 3, none⟩) hbl2).trans p3w
                  clear p2w p3w p2 p3
                  clear c0 c1 c2 f2 hA3 hO3 hw5
                  go_upto_region 10 with fail
                  generalize hw6 : w5.alloc (.cells #[.int .i64 0, .string ⟨#[]⟩, .int .i64 0, .int .i64 0] 71) = w6 at *
                  generalize hbb : w5.heap.size = b at *
                  clear hw6 hb6 hbb
                  have HA6 := Lib.hid hA6
                  have HO6 := Lib.hid hO6
                  obtain ⟨c0, c1, c2, f2⟩ := hA6.1.cells
                  have hiz : (i : Int) < (P.length : Int) := by omega
                  clear hA6 hO6
                  go_wp2_with fail
                  go_quiet (fail)
                  clear c0 c1 c2 f2 p2v p3v
                  have hA7 := HA6.out.q nq
                  have hO7 := own_later HO6.out (below_still ⟨nq, rfl⟩)
                  have hF7 := hF6.later (below_still ⟨nq, rfl⟩)
                  generalize hw7 : w6.drewN nq = w7 at *
                  clear hw7 hF6 HA6 HO6
                  have cT7 := cT w7 hA7.1
                  have HA7 := Lib.hid hA7
                  have HO7 := Lib.hid hO7
                  have HF7 := Lib.hid hF7
                  clear cT hA7 hO7 hF7
                  cases O with
                  | none =>
                    have hfin := HX2.out.none HY.out HC3.out HTO.out
                    have HF := Lib.hid hfin
                    obtain ⟨h0, hh0⟩ : ∃ n : Nat, (flat (P.take i)).length = n := ⟨_, rfl⟩
                    unfold LTok at cT7
                    rw [hh0] at cT7
                    have HH := Lib.hid hh0
                    clear hfin hh0
                    go_wp2_with fail
                    refine cT7.mono ?_
                    rintro e w8 ⟨hw8, K8, S8, n8, rfl⟩
                    have hA8 := HA7.out.2.1.trans hw8
                    obtain ⟨fl, z0, z1, z2, z3, f0, f1, f2, f3⟩ := HF7.out.away hw8 hg5.symm
                    clear cT7 hw8
                    go_wp2_with fail
                    go_quiet (fail)
                    go_wp2_with fail
                    have hA9 := ((((hA8.put hs5 0 (.int .i64 K8)).put hs5 1 (.string S8)).put hs5 2 (.int .i64 n8)).put hs5 3 (.int .i64 (h0 : Int)))
                    exact bodyPost_ret (v := .tuple #[.slice none 0 0, .int .i64 (h0 : Int), .int .i64 5]) (by simp [results, Tryz.results49, go_sem]) rfl (LexEnd.no hs4 (by rw [HZ.out, HF.out, HH.out]) (below_q1 (HBW.out.trans (hA9.below (by omega) HBW.out.size)) _))
                  | some f =>
                    obtain ⟨hX3, hjl⟩ := HX2.out.some HY.out HC3.out HTO.out
                    obtain ⟨h0, hh0⟩ : ∃ n : Nat, (flat (P.take i)).length = n := ⟨_, rfl⟩
                    unfold LTok at cT7
                    rw [hh0] at cT7 hX3
                    have htk : f.tk h0 = ⟨f.k, f.s, f.n, h0⟩ := rfl
                    rw [htk] at hX3
                    dsimp only at cT7
                    generalize f.k = K4 at cT7 hX3
                    generalize f.n = N4 at cT7 hX3
                    generalize f.j = m4 at cT7 hX3 hjl
                    obtain ⟨S4, hS4⟩ : ∃ S4 : ByteArray, (⟨f.s.toArray⟩ : ByteArray) = S4 := ⟨_, rfl⟩
                    rw [hS4] at cT7
                    have HX3 := Lib.hid hX3
                    have HS4 := Lib.hid hS4
                    clear hX3 hS4 hh0 htk
                    go_wp2_with fail
                    refine cT7.mono ?_
                    rintro e w8 ⟨hw8, rfl, hL8⟩
                    have hA8 := HA7.out.step hL8 hw8
                    have hO8 := own_away HO7.out hw8 hgl
                    have hF8 := HF7.out.away hw8 hg5.symm
                    obtain ⟨fl, z0, z1, z2, z3, f0, f1, f2, f3⟩ := hF8
                    have HA8 := Lib.hid hA8
                    have HO8 := Lib.hid hO8
                    have hs8 : w2.heap.size ≤ w8.heap.size := hA8.2.1.size
                    clear cT7 hw8 hL8 hA8 hO8
                    go_upto_region 20 with fail
                    have hA9 := ((((HA8.out.put hs5 0 (.int .i64 (K4 : Int))).put hs5 1 (.string S4)).put hs5 2 (.int .i64 (N4 : Int))).put hs5 3 (.int .i64 (h0 : Int)))
                    have hF9 := (show Four w8 b _ _ _ _ from ⟨fl, z0, z1, z2, z3, f0, f1, f2, f3⟩).set (.int .i64 (K4 : Int)) (.string S4) (.int .i64 (N4 : Int)) (.int .i64 (h0 : Int))
                    have hO9 := own_set4 HO8.out hne5 (.int .i64 (K4 : Int)) (.string S4) (.int .i64 (N4 : Int)) (.int .i64 (h0 : Int))
                    generalize hw9 : (((w8.setCell ⟨b, 0, none⟩ (.int .i64 (K4 : Int))).setCell ⟨b, 1, none⟩ (.string S4)).setCell ⟨b, 2, none⟩ (.int .i64 (N4 : Int))).setCell ⟨b, 3, none⟩ (.int .i64 (h0 : Int)) = w9 at *
                    clear hw9 z0 z1 z2 z3 f0 f1 f2 f3 fl
                    obtain ⟨fl, z0, z1, z2, z3, f0, f1, f2, f3⟩ := hF9
                    have HOWN := Lib.hid hO9
                    have HA9 := Lib.hid hA9
                    clear hO9 hA9
                    go_wp2_with (at_builtin; refine wpList_append_own _ rfl _ _ 67 rfl w2.heap.size 71 i0 _ 4 40 Tryz.underlying67 hi hz0 hz1 hz2 rfl (by decide) _ _ _ rfl (HOWN.out.alloc _) ⟨w9.heap.size, 0, none⟩ 1 1 [.int .i64 (K4 : Int), .string S4, .int .i64 (N4 : Int), .int .i64 (h0 : Int)] rfl rfl ?c1 ?c2 ?c3 ?c4 ?c5 ?_)
                    case c1 => exact four_news _ _ _ _ _ _
                    case c2 => exact four_cells _ _ _ _
                    case c3 => unfold maxLen; omega
                    case c4 => omega
                    case c5 => rw [alloc_size]; have := HA9.out.2.1.size; omega
                    intro v' wC hown' hgrow _
                    have hAC := (HA9.out.alloc _).grown hgrow (fun k hk => (HOWN.out.lt k hk).1)
                    have hOC : wC.ownsRow w2.heap.size 71 4 v' (ts ++ [(⟨K4, f.s, N4, h0⟩ : Tk)]).length (tkCells (ts ++ [(⟨K4, f.s, N4, h0⟩ : Tk)])) := by
                      rw [List.length_append, List.length_singleton, tkCells_snoc]
                      have := HS4.out
                      subst this
                      exact hown'
                    have HAC := Lib.hid hAC
                    have HOC := Lib.hid hOC
                    clear hAC hOC hown' hgrow z0 z1 z2 z3 f0 f1 f2 f3 fl
                    go_wp2_with fail
                    go_roundg (P.length - (i + 1 + m4))
                    case measure => have := HJN.out; omega
                    case rel => exact ⟨i + 1 + m4, _, by omega, HAC, HOC, HX3⟩
end Go.Proofs.YtkbeemkmcnfiiaaGreatDoor
