/- Several texts in one: LexX, LexAwake. -/
import Derived.Test.YtkbeemkmcnfiiaaGreatDoorGC
import Derived.Deep.Cut
namespace Go.Proofs.YtkbeemkmcnfiiaaGreatDoor
/- The contract of lex.Lex: a formula's tokens, or where the first wrong one begins. -/
section
open Go.RowKit

theorem below_set {w w1 : World} {B g : Nat} (h : Below B w w1) (hg : B ≤ g) (a b c d : Value) :
    Below B w ((((w1.setCell ⟨g, 0, none⟩ a).setCell ⟨g, 1, none⟩ b).setCell ⟨g, 2, none⟩ c).setCell ⟨g, 3, none⟩ d) :=
  (((h.setCell (p := ⟨g, 0, none⟩) hg _).setCell (p := ⟨g, 1, none⟩) hg _).setCell (p := ⟨g, 2, none⟩) hg _).setCell (p := ⟨g, 3, none⟩) hg _
theorem below_set2 {w w1 : World} {B g : Nat} (h : Below B w w1) (hg : B ≤ g) (a b c d e : Value) :
    Below B w (((((w1.setCell ⟨g, 0, none⟩ a).setCell ⟨g, 1, none⟩ b).setCell ⟨g, 2, none⟩ c).setCell ⟨g, 3, none⟩ d).setCell ⟨g, 3, none⟩ e) :=
  (below_set h hg a b c d).setCell (p := ⟨g, 3, none⟩) hg _
theorem Four.set {w : World} {g : Nat} {a b c d : Value} (h : Four w g a b c d) (u v z y : Value) : Four ((((w.setCell ⟨g, 0, none⟩ u).setCell ⟨g, 1, none⟩ v).setCell ⟨g, 2, none⟩ z).setCell ⟨g, 3, none⟩ y) g u v z y := by
  obtain ⟨hl, h0, h1, h2, h3, f0, f1, f2, f3⟩ := h
  refine ⟨by simpa using hl, ?_, ?_, ?_, ?_, ?_, ?_, ?_, ?_⟩
  all_goals simp [h0, h1, h2, h3, f0, f1, f2, f3, go_sem]
theorem Four.set3 {w : World} {g : Nat} {a b c d : Value} (h : Four w g a b c d) (y : Value) : Four (w.setCell ⟨g, 3, none⟩ y) g a b c y := by
  obtain ⟨hl, h0, h1, h2, h3, f0, f1, f2, f3⟩ := h
  refine ⟨by simpa using hl, ?_, ?_, ?_, ?_, ?_, ?_, ?_, ?_⟩
  all_goals simp [h0, h1, h2, h3, f0, f1, f2, f3, go_sem]
/-- A token's bytes. -/
theorem few_bytes {t : ByteArray} {P : List Pc} {pos : Nat} {C Y : List Pc} {x : Pc} {f : Fd} (hP : Pcd P) (hA : At t P pos C (x :: Y)) (_ : tokF x Y = some f) : 1 ≤ (flat (x :: Y.take f.j)).length ∧ pos + (flat (x :: Y.take f.j)).length ≤ (flat P).length := by
  have hx := (hA.fitY hP x (by simp)).pos
  have e : flat P = flat C ++ (flat (x :: Y.take f.j) ++ flat (Y.drop f.j)) := by
    rw [← flat_append, ← flat_append, List.cons_append, List.take_append_drop, hA.1]
  have hl := congrArg List.length e
  rw [List.length_append, List.length_append, hA.2.2.1] at hl
  have h1 : (flat (x :: Y.take f.j)).length = x.2.length + (flat (Y.take f.j)).length := by rw [flat_cons, List.length_append]
  omega
def XRel (s : ByteArray) (w : World) (K pos : Nat) (v : Value) (ts : List Tk) (wr : World) : Prop :=
  wr.ownsRow w.heap.size 71 4 v ts.length (tkCells ts) ∧ wr.heap[K]? = some (.stringIter s pos) ∧ Below w.heap.size w wr
theorem four_news (w : World) (a b c d : Value) (t : TypeId) : ∀ (j : Nat) (u : Value), [a, b, c, d][j]? = some u → (w.alloc (.cells #[a, b, c, d] t)).cell? ((⟨w.heap.size, 0, none⟩ : Addr).add j) = some u := by
  intro j u hj
  have e : (⟨w.heap.size, 0, none⟩ : Addr).add j = ⟨w.heap.size, j, none⟩ := by unfold Addr.add; split <;> simp_all
  rw [e, cells_of_alloc]
  simpa using hj
theorem four_cells (K n a : Int) (s : ByteArray) : ∀ u ∈ [Value.int .i64 K, .string s, .int .i64 n, .int .i64 a], u.oneCell' = true := by
  intro u hu
  simp only [List.mem_cons, List.not_mem_nil, or_false] at hu
  rcases hu with rfl | rfl | rfl | rfl <;> rfl
theorem XRel.snoc {s : ByteArray} {w wB wC : World} {pos : Nat} {v v' : Value} {ts : List Tk} {k n a : Nat} {S : ByteArray} {l : List UInt8} {cs : Array Value} {ty : TypeId}
    (hown : wB.ownsRow w.heap.size 71 4 v ts.length (tkCells ts)) (hit : wB.heap[w.heap.size]? = some (.stringIter s pos)) (hbw : Below w.heap.size w wB) (hsz : w.heap.size < wB.heap.size)
    (hown' : wC.ownsRow w.heap.size 71 4 v' (ts.length + 1) (tkCells ts ++ [.int .i64 (k : Int), .string S, .int .i64 (n : Int), .int .i64 (a : Int)])) (hgrow : World.grownBy (wB.alloc (.cells cs ty)) wC v.ownBlock) (hS : (⟨l.toArray⟩ : ByteArray) = S) :
    XRel s w w.heap.size pos v' (ts ++ [⟨k, l, n, a⟩]) wC := by
  have hitA : (wB.alloc (.cells cs ty)).heap[w.heap.size]? = some (.stringIter s pos) := by rw [Below.heap_alloc _ _ _ hsz]; exact hit
  refine ⟨?_, ?_, ?_⟩
  · rw [List.length_append, List.length_singleton, tkCells_snoc]
    subst hS
    exact hown'
  · rw [hgrow.block w.heap.size (by rw [alloc_size]; omega) (iter_ne (hown.alloc _) hitA)]; exact hitA
  · exact (hbw.alloc (Nat.le_of_lt hsz) _).grown hgrow (by rw [alloc_size]; omega) (fun k hk => (hown.lt k hk).1)
theorem tk_end {w : World} {B : Nat} {e : TypeId} {v : Value} {ts : List Tk} {n : Nat} (h : w.ownsRow B e 4 v (ts.length + 1) (tkCells ts ++ [.int .i64 0, .string ⟨#[]⟩, .int .i64 0, .int .i64 (n : Int)])) :
    ∃ ao cap, v = .slice ao (ts.length + 1) cap ∧ ts.length + 1 ≤ cap ∧ TkAt w ao (ts ++ [endT n]) := by
  have e1 : (ts ++ [endT n]).length = ts.length + 1 := by rw [List.length_append, List.length_singleton]
  have e2 : tkCells (ts ++ [endT n]) = tkCells ts ++ [.int .i64 0, .string ⟨#[]⟩, .int .i64 0, .int .i64 (n : Int)] := by rw [tkCells_snoc]; rfl
  rw [← e1, ← e2] at h
  obtain ⟨ao, cap, h1, h2, h3⟩ := tk_slice h
  exact ⟨ao, cap, by rw [h1, e1], by omega, h3⟩

set_option maxHeartbeats 4000000 in
set_option maxRecDepth 1000000 in
theorem lex_any (s : ByteArray) (w : World) (hs : s.size ≤ 1099511627776) (hE : Env7 w) :
    Calls Tryz.prog 45 #[.string s] w (LexEnd s w) := by
  unfold LexEnd
  by_cases hs4 : 400 < s.size
  · have hz : (400 : Int) < (s.size : Int) := by omega
    go_enter Tryz.func45, Tryz.ntmps45
    go_wp2
    go_step3
    go_wp2
    rw [Exit.noGoto_ret]
    exact bodyPost_ret (v := .tuple #[.slice none 0 0, .int .i64 400, .int .i64 7]) (by simp [results, Tryz.results45, go_sem]) rfl ⟨Below.refl _ _, by rw [if_pos hs4]⟩
  · have hz : ¬ (400 : Int) < (s.size : Int) := by omega
    obtain ⟨i0, hi, hz0, hz1, hz2⟩ := info_parts (show (Tryz.prog.info? 71).map (fun i => (i.zero, i.size, i.bytes)) = some (some (.agg #[.int .i64 0, .string ⟨#[]⟩, .int .i64 0, .int .i64 0]), 4, 40) by kernel_rfl)
    obtain ⟨P, hP⟩ : ∃ P, pcs s.data.toList = P := ⟨_, rfl⟩
    have hst := LexAt.start hP
    obtain ⟨Z, hZ⟩ : ∃ Z, lexR P 0 = Z := ⟨_, rfl⟩
    have hZL : lexL s.data.toList = Z := by unfold lexL; rw [hP, hZ]
    rw [hZ] at hst
    have hPc : Pcd P := hP ▸ Pcd.of _
    have hPS : (flat P).length = s.size := by rw [← hP, flat_pcs, size_list]
    have hR0 : XRel s w w.heap.size 0 (.slice none 0 0) [] (w.iter s 0) := ⟨World.ownsRow_nil _ _ _ _, World.iter_heap w s 0, (Below.refl _ _).alloc (Nat.le_refl _) _⟩
    have HST := Lib.hid hst
    have HP := Lib.hid hP
    have HPC := Lib.hid hPc
    have HPS := Lib.hid hPS
    have HZ := Lib.hid hZL
    have HR0 := Lib.hid hR0
    clear hst hP hPc hPS hZ hZL hR0
    go_enter Tryz.func45, Tryz.ntmps45
    go_wp2
    go_step3
    go_wp2
    go_step3
    go_wp2
    go_loopg [5, 6] (P.length) (fun n s5 s6 wr => ∃ pos C Y next ts, Hid (LexAt s P Z pos C Y next ts) ∧ Hid (XRel s w w.heap.size pos s5 ts wr) ∧ Y.length = n ∧ pos ≤ s.size ∧ next ≤ 2000 ∧ s6 = .int .i64 (next : Int))
    case atStart => exact ⟨0, [], P, 0, [], HST, HR0, rfl, Nat.zero_le _, by decide, rfl⟩
    case round =>
      obtain ⟨pos, C, Y, next, ts, HA, HR, hn, hps, hnx0, rfl⟩ := hrel
      have hit := HR.out.2.1
      have hsz := (Array.getElem?_eq_some_iff.1 hit).1
      have hfew := HA.out.few HP.out
      clear HST HR0
      by_cases hp : pos < s.size
      · have hnx : ∀ ty, (Instr.next (.pointer (some ⟨w.heap.size, 0, none⟩)) true ty).run Tryz.prog wr = _ := fun ty => Lib.run_next_any_at wr w.heap.size s pos ty hit hp
        obtain ⟨hI, -, hbw⟩ := HR.out
        obtain ⟨hwd1, hwd2⟩ := width_in s pos hp
        have hr := Lib.rune_le s pos
        have hI2 := own_iterAt hI hit (pos + (Utf8.decode s pos).2)
        have hit2 := Lib.iterAt_heap wr w.heap.size s pos (pos + (Utf8.decode s pos).2) hit
        have hbw2 := Lib.below_iterAt hbw (k := w.heap.size) (Nat.le_refl _) s (pos + (Utf8.decode s pos).2)
        have hsz2 : w.heap.size ≤ (wr.iterAt w.heap.size s (pos + (Utf8.decode s pos).2)).heap.size := by rw [Lib.iterAt_size]; omega
        have hszk : w.heap.size < (wr.iterAt w.heap.size s (pos + (Utf8.decode s pos).2)).heap.size := by rw [Lib.iterAt_size]; omega
        obtain ⟨y, Y2, hY, hy1, hy2, -⟩ := HA.out.1.next hp
        subst hY
        simp only [List.length_cons] at hn
        have HY1 := Lib.hid hy1
        have HY2 := Lib.hid hy2
        obtain ⟨wr2, hwr2⟩ : ∃ wr2, wr.iterAt w.heap.size s (pos + (Utf8.decode s pos).2) = wr2 := ⟨_, rfl⟩
        rw [hwr2] at hI2 hit2 hbw2 hsz2 hszk hnx
        have hR2 : XRel s w w.heap.size (pos + (Utf8.decode s pos).2) u5 ts wr2 := ⟨hI2, hit2, hbw2⟩
        have HR2 := Lib.hid hR2
        clear hI hbw hit hR2 hy1 hy2 HR hwr2
        by_cases hlt : pos < next
        · have hltz : (pos : Int) < (next : Int) := by omega
          have hA2 := HA.out.skip HPC.out hlt
          rw [HY2.out] at hA2
          have HA2 := Lib.hid hA2
          clear hI2 hit2 hbw2 hA2
          go_wp2_with fail
          go_roundg Y2.length
          case measure => omega
          case rel => exact ⟨_, _, Y2, next, ts, HA2, HR2, rfl, by omega, hnx0, rfl⟩
        · have hltz : ¬ (pos : Int) < (next : Int) := by omega
          have hb3 := below_alloc wr2 (.cells #[.int .i64 0, .string ⟨#[]⟩, .int .i64 0, .int .i64 0] 71)
          have hF3 := four_new wr2 (.int .i64 0) (.string ⟨#[]⟩) (.int .i64 0) (.int .i64 0) 71
          obtain ⟨wr3, hwr3⟩ : ∃ wr3, wr2.alloc (.cells #[.int .i64 0, .string ⟨#[]⟩, .int .i64 0, .int .i64 0] 71) = wr3 := ⟨_, rfl⟩
          rw [hwr3] at hb3 hF3
          have hE3 := hE.later (below_to hbw2 hb3)
          have hpz : (pos : Int) ≤ (s.size : Int) := by omega
          have hxt : pcs (s.extract pos s.size).data.toList = y :: Y2 := by rw [tailList]; exact HA.out.1.2.1
          have hxs : (s.extract pos s.size).size ≤ 1000 := by rw [← size_list, tailList, List.length_drop, size_list]; omega
          have cK := fun w => class_any ((Utf8.decode s pos).1 : Int) w
          obtain ⟨r, hrr⟩ : ∃ r, (Utf8.decode s pos).1 = r := ⟨_, rfl⟩
          have hyr : y.1 = r := by rw [HY1.out, hrr]
          rw [hrr] at hnx hr cK
          have HYR := Lib.hid hyr
          clear hrr hyr HY1
          have hRow := hI2
          have HROW := Lib.hid hRow
          clear hI2 hRow
          have hRow := True.intro
          by_cases hc3 : classZ (r : Int) = 3
          · simp only [hc3] at cK
            have hA2 := HA.out.blank HPC.out hlt (by rw [HYR.out]; exact hc3)
            rw [HY2.out] at hA2
            have HA2 := Lib.hid hA2
            have hR3 : XRel s w w.heap.size (pos + (Utf8.decode s pos).2) u5 ts wr3 := ⟨own_later HROW.out hb3, (hb3.block w.heap.size hszk).trans hit2, below_to hbw2 hb3⟩
            have HR3 := Lib.hid hR3
            clear hA2 hR3 hit2 hbw2 hb3 hF3 hxt hE3 hc3
            go_wp2_with fail
            refine (cK _).mono ?_
            rintro e wa ⟨rfl, rfl⟩
            go_wp2_with fail
            go_roundg Y2.length
            case measure => omega
            case rel => exact ⟨_, _, Y2, next, ts, HA2, HR3, rfl, by omega, hnx0, rfl⟩
          · have HC3 := Lib.hid (show classZ (y.1 : Int) ≠ 3 by rw [HYR.out]; exact hc3)
            have hn3 : (classZ (r : Int) == 3) = false := beq_eq_false_iff_ne.2 hc3
            by_cases hc2 : classZ (r : Int) = 2
            · have cX := number_any (s.extract pos s.size) y Y2 wr3 (by omega) hxt (by rw [HYR.out]; exact hc2) hE3.errs
              rw [show numF y Y2 = tokF y Y2 by unfold tokF; rw [if_pos (by rw [HYR.out]; exact hc2)]] at cX
              simp only [hc2] at cK
              clear hc3 hn3 hc2 hxt hE3
              cases hO : tokF y Y2 with
              | none =>
                have hfin := HA.out.none HPC.out hlt HC3.out hO
                rw [hO] at cX
                unfold Told toldV at cX
                have HF := Lib.hid hfin
                clear hfin hO HR2 hRow hit2
                go_wp2_with fail
                refine (cK _).mono ?_
                rintro e wa ⟨rfl, rfl⟩
                go_wp2_with fail
                refine cX.mono ?_
                rintro e wb ⟨rfl, b4⟩
                obtain ⟨-, z0, z1, z2, z3, f0, f1, f2, f3⟩ := hF3.later b4
                have hbz := below_set (below_to hb3 b4) (Nat.le_refl _) (.int .i64 0) (.string ⟨#[]⟩) (.int .i64 0) (.int .i64 0)
                have hbw5 := hbw2.trans (hbz.mono hsz2)
                clear cX cK hF3 hb3 b4 hbw2 hbz
                go_wp2_with fail
                rw [Exit.noGoto_ret]
                exact bodyPost_ret (v := .tuple #[.slice none 0 0, .int .i64 (pos : Int), .int .i64 5]) (by simp [results, Tryz.results45, go_sem]) rfl ⟨hbw5, by rw [if_neg hs4, HZ.out, HF.out]⟩
              | some f =>
                have hA3 := HA.out.some HPC.out hlt HC3.out hO
                rw [HY2.out] at hA3
                rw [hO] at cX
                unfold Told toldV at cX
                dsimp only at cX
                have hfw := few_bytes HPC.out HA.out.1 hO
                rw [HPS.out] at hfw
                obtain ⟨nf, hnf⟩ : ∃ nf, (flat (y :: Y2.take f.j)).length = nf := ⟨_, rfl⟩
                rw [hnf] at cX hA3 hfw
                have htl := hA3.few HP.out
                rw [List.length_append, List.length_singleton] at htl
                have htk : f.tk pos = ⟨f.k, f.s, f.n, pos⟩ := rfl
                rw [htk] at hA3
                generalize f.k = K4 at cX hA3
                generalize f.n = N4 at cX hA3
                obtain ⟨S4, hS4⟩ : ∃ S4 : ByteArray, (⟨f.s.toArray⟩ : ByteArray) = S4 := ⟨_, rfl⟩
                rw [hS4] at cX
                have HA3 := Lib.hid hA3
                have HS4 := Lib.hid hS4
                have hn0 : ((nf : Int) == 0) = false := beq_eq_false_iff_ne.2 (by omega)
                clear hA3 hS4 hnf hO htk HR2 HA
                go_wp2_with fail
                refine (cK _).mono ?_
                rintro e wa ⟨rfl, rfl⟩
                go_wp2_with fail
                refine cX.mono ?_
                rintro e wb ⟨rfl, b4⟩
                have hFa := (hF3.later b4).set (.int .i64 (K4 : Int)) (.string S4) (.int .i64 (N4 : Int)) (.int .i64 0)
                have hBa := below_set (below_to hb3 b4) (Nat.le_refl _) (.int .i64 (K4 : Int)) (.string S4) (.int .i64 (N4 : Int)) (.int .i64 0)
                obtain ⟨-, z0, z1, z2, z3, f0, f1, f2, f3⟩ := hF3.later b4
                clear cX cK hF3 hb3 b4 hwr3
                go_upto_region 18 with fail
                generalize hWa : (((wb.setCell ⟨wr2.heap.size, 0, none⟩ (.int .i64 (K4 : Int))).setCell ⟨wr2.heap.size, 1, none⟩ (.string S4)).setCell ⟨wr2.heap.size, 2, none⟩ (.int .i64 (N4 : Int))).setCell ⟨wr2.heap.size, 3, none⟩ (.int .i64 0) = wA at *
                clear hWa z0 z1 z2 z3 f0 f1 f2 f3
                have hFb := hFa.set3 (.int .i64 (pos : Int))
                have hBb := hBa.setCell (p := ⟨wr2.heap.size, 3, none⟩) (Nat.le_refl _) (.int .i64 (pos : Int))
                obtain ⟨-, z0, z1, z2, z3, f0, f1, f2, f3⟩ := hFa
                go_upto_region 21 with fail
                generalize hWb : wA.setCell ⟨wr2.heap.size, 3, none⟩ (.int .i64 (pos : Int)) = wB at *
                clear hWb z0 z1 z2 z3 f0 f1 f2 f3 hBa
                obtain ⟨-, z0, z1, z2, z3, f0, f1, f2, f3⟩ := hFb
                have hown := own_later HROW.out hBb
                have hitB := (hBb.block w.heap.size hszk).trans hit2
                have hbwB := hbw2.trans (hBb.mono hsz2)
                have hszB : w.heap.size < wB.heap.size := Nat.lt_of_lt_of_le hszk hBb.size
                have HOWN := Lib.hid hown
                have HITB := Lib.hid hitB
                have HBWB := Lib.hid hbwB
                clear hown hitB hbwB hBb hit2 hbw2 HROW
                go_wp2_with (at_builtin; refine wpList_append_own _ rfl _ _ 67 rfl w.heap.size 71 i0 _ 4 40 Tryz.underlying67 hi hz0 hz1 hz2 rfl (by decide) _ _ _ rfl (HOWN.out.alloc _) ⟨wB.heap.size, 0, none⟩ 1 1 [.int .i64 (K4 : Int), .string S4, .int .i64 (N4 : Int), .int .i64 (pos : Int)] rfl rfl ?c1 ?c2 ?c3 ?c4 ?c5 ?_)
                case c1 => exact four_news _ _ _ _ _ _
                case c2 => exact four_cells _ _ _ _
                case c3 => unfold maxLen; omega
                case c4 => omega
                case c5 => rw [alloc_size]; omega
                intro v' wC hown' hgrow _
                have hR4 : XRel s w w.heap.size (pos + (Utf8.decode s pos).2) v' (ts ++ [⟨K4, f.s, N4, pos⟩]) wC := XRel.snoc HOWN.out HITB.out HBWB.out hszB hown' hgrow HS4.out
                have HR4 := Lib.hid hR4
                clear hown' hgrow hR4 z0 z1 z2 z3 f0 f1 f2 f3
                go_wp2_with fail
                go_roundg Y2.length
                case measure => omega
                case rel => exact ⟨_, _, Y2, pos + nf, _, HA3, HR4, rfl, by omega, by omega, by go_num⟩
            · by_cases hc1 : classZ (r : Int) = 1
              · have cX := name_any (s.extract pos s.size) y Y2 wr3 (by omega) hxt (by rw [HYR.out]; exact hc1)
                rw [show nameF y Y2 = tokF y Y2 by unfold tokF; rw [if_neg (by rw [HYR.out]; exact hc2), if_pos (by rw [HYR.out]; exact hc1)]] at cX
                simp only [hc1] at cK
                clear hc3 hn3 hc2 hc1 hxt hE3
                cases hO : tokF y Y2 with
                | none =>
                  have hfin := HA.out.none HPC.out hlt HC3.out hO
                  rw [hO] at cX
                  unfold Told toldV at cX
                  have HF := Lib.hid hfin
                  clear hfin hO HR2 hRow hit2
                  go_wp2_with fail
                  refine (cK _).mono ?_
                  rintro e wa ⟨rfl, rfl⟩
                  go_wp2_with fail
                  refine cX.mono ?_
                  rintro e wb ⟨rfl, b4⟩
                  obtain ⟨-, z0, z1, z2, z3, f0, f1, f2, f3⟩ := hF3.later b4
                  have hbz := below_set (below_to hb3 b4) (Nat.le_refl _) (.int .i64 0) (.string ⟨#[]⟩) (.int .i64 0) (.int .i64 0)
                  have hbw5 := hbw2.trans (hbz.mono hsz2)
                  clear cX cK hF3 hb3 b4 hbw2 hbz
                  go_wp2_with fail
                  rw [Exit.noGoto_ret]
                  exact bodyPost_ret (v := .tuple #[.slice none 0 0, .int .i64 (pos : Int), .int .i64 5]) (by simp [results, Tryz.results45, go_sem]) rfl ⟨hbw5, by rw [if_neg hs4, HZ.out, HF.out]⟩
                | some f =>
                  have hA3 := HA.out.some HPC.out hlt HC3.out hO
                  rw [HY2.out] at hA3
                  rw [hO] at cX
                  unfold Told toldV at cX
                  dsimp only at cX
                  have hfw := few_bytes HPC.out HA.out.1 hO
                  rw [HPS.out] at hfw
                  obtain ⟨nf, hnf⟩ : ∃ nf, (flat (y :: Y2.take f.j)).length = nf := ⟨_, rfl⟩
                  rw [hnf] at cX hA3 hfw
                  have htl := hA3.few HP.out
                  rw [List.length_append, List.length_singleton] at htl
                  have htk : f.tk pos = ⟨f.k, f.s, f.n, pos⟩ := rfl
                  rw [htk] at hA3
                  generalize f.k = K4 at cX hA3
                  generalize f.n = N4 at cX hA3
                  obtain ⟨S4, hS4⟩ : ∃ S4 : ByteArray, (⟨f.s.toArray⟩ : ByteArray) = S4 := ⟨_, rfl⟩
                  rw [hS4] at cX
                  have HA3 := Lib.hid hA3
                  have HS4 := Lib.hid hS4
                  have hn0 : ((nf : Int) == 0) = false := beq_eq_false_iff_ne.2 (by omega)
                  clear hA3 hS4 hnf hO htk HR2 HA
                  go_wp2_with fail
                  refine (cK _).mono ?_
                  rintro e wa ⟨rfl, rfl⟩
                  go_wp2_with fail
                  refine cX.mono ?_
                  rintro e wb ⟨rfl, b4⟩
                  have hFa := (hF3.later b4).set (.int .i64 (K4 : Int)) (.string S4) (.int .i64 (N4 : Int)) (.int .i64 0)
                  have hBa := below_set (below_to hb3 b4) (Nat.le_refl _) (.int .i64 (K4 : Int)) (.string S4) (.int .i64 (N4 : Int)) (.int .i64 0)
                  obtain ⟨-, z0, z1, z2, z3, f0, f1, f2, f3⟩ := hF3.later b4
                  clear cX cK hF3 hb3 b4 hwr3
                  go_upto_region 18 with fail
                  generalize hWa : (((wb.setCell ⟨wr2.heap.size, 0, none⟩ (.int .i64 (K4 : Int))).setCell ⟨wr2.heap.size, 1, none⟩ (.string S4)).setCell ⟨wr2.heap.size, 2, none⟩ (.int .i64 (N4 : Int))).setCell ⟨wr2.heap.size, 3, none⟩ (.int .i64 0) = wA at *
                  clear hWa z0 z1 z2 z3 f0 f1 f2 f3
                  have hFb := hFa.set3 (.int .i64 (pos : Int))
                  have hBb := hBa.setCell (p := ⟨wr2.heap.size, 3, none⟩) (Nat.le_refl _) (.int .i64 (pos : Int))
                  obtain ⟨-, z0, z1, z2, z3, f0, f1, f2, f3⟩ := hFa
                  go_upto_region 21 with fail
                  generalize hWb : wA.setCell ⟨wr2.heap.size, 3, none⟩ (.int .i64 (pos : Int)) = wB at *
                  clear hWb z0 z1 z2 z3 f0 f1 f2 f3 hBa
                  obtain ⟨-, z0, z1, z2, z3, f0, f1, f2, f3⟩ := hFb
                  have hown := own_later HROW.out hBb
                  have hitB := (hBb.block w.heap.size hszk).trans hit2
                  have hbwB := hbw2.trans (hBb.mono hsz2)
                  have hszB : w.heap.size < wB.heap.size := Nat.lt_of_lt_of_le hszk hBb.size
                  have HOWN := Lib.hid hown
                  have HITB := Lib.hid hitB
                  have HBWB := Lib.hid hbwB
                  clear hown hitB hbwB hBb hit2 hbw2 HROW
                  go_wp2_with (at_builtin; refine wpList_append_own _ rfl _ _ 67 rfl w.heap.size 71 i0 _ 4 40 Tryz.underlying67 hi hz0 hz1 hz2 rfl (by decide) _ _ _ rfl (HOWN.out.alloc _) ⟨wB.heap.size, 0, none⟩ 1 1 [.int .i64 (K4 : Int), .string S4, .int .i64 (N4 : Int), .int .i64 (pos : Int)] rfl rfl ?c1 ?c2 ?c3 ?c4 ?c5 ?_)
                  case c1 => exact four_news _ _ _ _ _ _
                  case c2 => exact four_cells _ _ _ _
                  case c3 => unfold maxLen; omega
                  case c4 => omega
                  case c5 => rw [alloc_size]; omega
                  intro v' wC hown' hgrow _
                  have hR4 : XRel s w w.heap.size (pos + (Utf8.decode s pos).2) v' (ts ++ [⟨K4, f.s, N4, pos⟩]) wC := XRel.snoc HOWN.out HITB.out HBWB.out hszB hown' hgrow HS4.out
                  have HR4 := Lib.hid hR4
                  clear hown' hgrow hR4 z0 z1 z2 z3 f0 f1 f2 f3
                  go_wp2_with fail
                  go_roundg Y2.length
                  case measure => omega
                  case rel => exact ⟨_, _, Y2, pos + nf, _, HA3, HR4, rfl, by omega, by omega, by go_num⟩
              · have cX := other_any (s.extract pos s.size) y Y2 wr3 hxs hxt hE3.tabs
                rw [show (if y.1 = 34 then textT Y2 else signF y Y2) = tokF y Y2 by unfold tokF; rw [if_neg (show ¬ classZ (y.1 : Int) = 2 by rw [HYR.out]; exact hc2), if_neg (show ¬ classZ (y.1 : Int) = 1 by rw [HYR.out]; exact hc1)]] at cX
                have hn2 : (classZ (r : Int) == 2) = false := beq_eq_false_iff_ne.2 hc2
                have hn1 : (classZ (r : Int) == 1) = false := beq_eq_false_iff_ne.2 hc1
                generalize classZ (r : Int) = KK at cK hn3 hn2 hn1
                clear hc3 hc2 hc1 hxt hE3
                cases hO : tokF y Y2 with
                | none =>
                  have hfin := HA.out.none HPC.out hlt HC3.out hO
                  rw [hO] at cX
                  unfold Told toldV at cX
                  have HF := Lib.hid hfin
                  clear hfin hO HR2 hRow hit2
                  go_wp2_with fail
                  refine (cK _).mono ?_
                  rintro e wa ⟨rfl, rfl⟩
                  go_wp2_with fail
                  refine cX.mono ?_
                  rintro e wb ⟨rfl, b4⟩
                  obtain ⟨-, z0, z1, z2, z3, f0, f1, f2, f3⟩ := hF3.later b4
                  have hbz := below_set (below_to hb3 b4) (Nat.le_refl _) (.int .i64 0) (.string ⟨#[]⟩) (.int .i64 0) (.int .i64 0)
                  have hbw5 := hbw2.trans (hbz.mono hsz2)
                  clear cX cK hF3 hb3 b4 hbw2 hbz
                  go_wp2_with fail
                  rw [Exit.noGoto_ret]
                  exact bodyPost_ret (v := .tuple #[.slice none 0 0, .int .i64 (pos : Int), .int .i64 5]) (by simp [results, Tryz.results45, go_sem]) rfl ⟨hbw5, by rw [if_neg hs4, HZ.out, HF.out]⟩
                | some f =>
                  have hA3 := HA.out.some HPC.out hlt HC3.out hO
                  rw [HY2.out] at hA3
                  rw [hO] at cX
                  unfold Told toldV at cX
                  dsimp only at cX
                  have hfw := few_bytes HPC.out HA.out.1 hO
                  rw [HPS.out] at hfw
                  obtain ⟨nf, hnf⟩ : ∃ nf, (flat (y :: Y2.take f.j)).length = nf := ⟨_, rfl⟩
                  rw [hnf] at cX hA3 hfw
                  have htl := hA3.few HP.out
                  rw [List.length_append, List.length_singleton] at htl
                  have htk : f.tk pos = ⟨f.k, f.s, f.n, pos⟩ := rfl
                  rw [htk] at hA3
                  generalize f.k = K4 at cX hA3
                  generalize f.n = N4 at cX hA3
                  obtain ⟨S4, hS4⟩ : ∃ S4 : ByteArray, (⟨f.s.toArray⟩ : ByteArray) = S4 := ⟨_, rfl⟩
                  rw [hS4] at cX
                  have HA3 := Lib.hid hA3
                  have HS4 := Lib.hid hS4
                  have hn0 : ((nf : Int) == 0) = false := beq_eq_false_iff_ne.2 (by omega)
                  clear hA3 hS4 hnf hO htk HR2 HA
                  go_wp2_with fail
                  refine (cK _).mono ?_
                  rintro e wa ⟨rfl, rfl⟩
                  go_wp2_with fail
                  refine cX.mono ?_
                  rintro e wb ⟨rfl, b4⟩
                  have hFa := (hF3.later b4).set (.int .i64 (K4 : Int)) (.string S4) (.int .i64 (N4 : Int)) (.int .i64 0)
                  have hBa := below_set (below_to hb3 b4) (Nat.le_refl _) (.int .i64 (K4 : Int)) (.string S4) (.int .i64 (N4 : Int)) (.int .i64 0)
                  obtain ⟨-, z0, z1, z2, z3, f0, f1, f2, f3⟩ := hF3.later b4
                  clear cX cK hF3 hb3 b4 hwr3
                  go_upto_region 18 with fail
                  generalize hWa : (((wb.setCell ⟨wr2.heap.size, 0, none⟩ (.int .i64 (K4 : Int))).setCell ⟨wr2.heap.size, 1, none⟩ (.string S4)).setCell ⟨wr2.heap.size, 2, none⟩ (.int .i64 (N4 : Int))).setCell ⟨wr2.heap.size, 3, none⟩ (.int .i64 0) = wA at *
                  clear hWa z0 z1 z2 z3 f0 f1 f2 f3
                  have hFb := hFa.set3 (.int .i64 (pos : Int))
                  have hBb := hBa.setCell (p := ⟨wr2.heap.size, 3, none⟩) (Nat.le_refl _) (.int .i64 (pos : Int))
                  obtain ⟨-, z0, z1, z2, z3, f0, f1, f2, f3⟩ := hFa
                  go_upto_region 21 with fail
                  generalize hWb : wA.setCell ⟨wr2.heap.size, 3, none⟩ (.int .i64 (pos : Int)) = wB at *
                  clear hWb z0 z1 z2 z3 f0 f1 f2 f3 hBa
                  obtain ⟨-, z0, z1, z2, z3, f0, f1, f2, f3⟩ := hFb
                  have hown := own_later HROW.out hBb
                  have hitB := (hBb.block w.heap.size hszk).trans hit2
                  have hbwB := hbw2.trans (hBb.mono hsz2)
                  have hszB : w.heap.size < wB.heap.size := Nat.lt_of_lt_of_le hszk hBb.size
                  have HOWN := Lib.hid hown
                  have HITB := Lib.hid hitB
                  have HBWB := Lib.hid hbwB
                  clear hown hitB hbwB hBb hit2 hbw2 HROW
                  go_wp2_with (at_builtin; refine wpList_append_own _ rfl _ _ 67 rfl w.heap.size 71 i0 _ 4 40 Tryz.underlying67 hi hz0 hz1 hz2 rfl (by decide) _ _ _ rfl (HOWN.out.alloc _) ⟨wB.heap.size, 0, none⟩ 1 1 [.int .i64 (K4 : Int), .string S4, .int .i64 (N4 : Int), .int .i64 (pos : Int)] rfl rfl ?c1 ?c2 ?c3 ?c4 ?c5 ?_)
                  case c1 => exact four_news _ _ _ _ _ _
                  case c2 => exact four_cells _ _ _ _
                  case c3 => unfold maxLen; omega
                  case c4 => omega
                  case c5 => rw [alloc_size]; omega
                  intro v' wC hown' hgrow _
                  have hR4 : XRel s w w.heap.size (pos + (Utf8.decode s pos).2) v' (ts ++ [⟨K4, f.s, N4, pos⟩]) wC := XRel.snoc HOWN.out HITB.out HBWB.out hszB hown' hgrow HS4.out
                  have HR4 := Lib.hid hR4
                  clear hown' hgrow hR4 z0 z1 z2 z3 f0 f1 f2 f3
                  go_wp2_with fail
                  go_roundg Y2.length
                  case measure => omega
                  case rel => exact ⟨_, _, Y2, pos + nf, _, HA3, HR4, rfl, by omega, by omega, by go_num⟩
      · have hnx : ∀ ty, (Instr.next (.pointer (some ⟨w.heap.size, 0, none⟩)) true ty).run Tryz.prog wr = _ := fun ty => Lib.run_next_end_at wr w.heap.size s pos ty hit hp
        obtain ⟨hY, -, -⟩ := HA.out.1.done hp
        subst hY
        have hfin := HA.out.over
        have HF := Lib.hid hfin
        have HOWN := Lib.hid HR.out.1
        have HBW := Lib.hid HR.out.2.2
        clear hfin hit HR
        go_wp2_with (at_builtin; refine wpList_append_own _ rfl _ _ 67 rfl w.heap.size 71 i0 _ 4 40 Tryz.underlying67 hi hz0 hz1 hz2 rfl (by decide) _ _ _ rfl (HOWN.out.alloc _) ⟨wr.heap.size, 0, none⟩ 1 1 [.int .i64 0, .string ⟨#[]⟩, .int .i64 0, .int .i64 (s.size : Int)] rfl rfl ?c1 ?c2 ?c3 ?c4 ?c5 ?_)
        case c1 => exact four_news _ _ _ _ _ _
        case c2 => exact four_cells _ _ _ _
        case c3 => unfold maxLen; omega
        case c4 => omega
        case c5 => rw [alloc_size]; omega
        intro v' wC hown' hgrow _
        have hbC : Below w.heap.size w wC := (HBW.out.alloc (Nat.le_of_lt hsz) _).grown hgrow (by rw [alloc_size]; omega) (fun k hk => (HOWN.out.lt k hk).1)
        obtain ⟨ao, cap, rfl, hcap, hTk⟩ := tk_end hown'
        go_wp2_with fail
        rw [Exit.noGoto_ret]
        exact bodyPost_ret (v := .tuple #[.slice ao (ts.length + 1 : Nat) cap, .int .i64 0, .int .i64 0]) (by simp [results, Tryz.results45, go_sem]) rfl ⟨hbC, by rw [if_neg hs4, HZ.out, HF.out]; exact ⟨ao, cap, rfl, hcap, hTk⟩⟩
end
/- What Lex tells, case by case. -/
section
open Go.RowKit

/-- What Lex tells of a formula that has tokens; of one that has none. -/
theorem lex_yes (s : ByteArray) (ts : List Tk) (w : World) (hs : s.size ≤ 400) (h : lexL s.data.toList = .ok ts) (hE : Env7 w) :
    Calls Tryz.prog 45 #[.string s] w fun e w' => Below w.heap.size w w' ∧ ∃ ao cap, e = .returned (.tuple #[.slice ao (ts.length + 1 : Nat) cap, .int .i64 0, .int .i64 0]) ∧ ts.length + 1 ≤ cap ∧ TkAt w' ao (ts ++ [endT s.size]) := by
  refine (lex_any s w (by omega) hE).mono ?_
  rintro e w' ⟨h1, h2⟩
  rw [if_neg (by omega), h] at h2
  exact ⟨h1, h2⟩
theorem lex_no (s : ByteArray) (p : Nat) (w : World) (hs : s.size ≤ 400) (h : lexL s.data.toList = .error p) (hE : Env7 w) :
    Calls Tryz.prog 45 #[.string s] w fun e w' => Below w.heap.size w w' ∧ e = .returned (.tuple #[.slice none 0 0, .int .i64 (p : Int), .int .i64 5]) := by
  refine (lex_any s w (by omega) hE).mono ?_
  rintro e w' ⟨h1, h2⟩
  rw [if_neg (by omega), h] at h2
  exact ⟨h1, h2⟩
theorem lex_deep (s : ByteArray) (w : World) (hs : s.size ≤ 1099511627776) (h : 400 < s.size) (hE : Env7 w) :
    Calls Tryz.prog 45 #[.string s] w fun e w' => Below w.heap.size w w' ∧ e = .returned (.tuple #[.slice none 0 0, .int .i64 400, .int .i64 7]) := by
  refine (lex_any s w hs hE).mono ?_
  rintro e w' ⟨h1, h2⟩
  rw [if_pos h] at h2
  exact ⟨h1, h2⟩
end
end Go.Proofs.YtkbeemkmcnfiiaaGreatDoor
