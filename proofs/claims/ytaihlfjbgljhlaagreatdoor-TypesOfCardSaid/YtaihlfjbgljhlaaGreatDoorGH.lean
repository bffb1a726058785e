/- Several texts in one: LexX, LexAwake, LexQ. -/
import Derived.Test.YtaihlfjbgljhlaaGreatDoorGC
import Derived.Deep.Cut
import Derived.IntWalk
import Derived.Laws.BitsAllLaws
namespace Go.Proofs.YtaihlfjbgljhlaaGreatDoor
/- The contract of lex.Lex: a formula's tokens, or where the first wrong one begins. -/
section
open Go.RowKit

theorem below_set {w w1 : World} {B g : Nat} (h : Below B w w1) (hg : B ≤ g) (a b c d : Value) :
    Below B w ((((w1.setCell ⟨g, 0, none⟩ a).setCell ⟨g, 1, none⟩ b).setCell ⟨g, 2, none⟩ c).setCell ⟨g, 3, none⟩ d) :=
  (((h.setCell (p := ⟨g, 0, none⟩) hg _).setCell (p := ⟨g, 1, none⟩) hg _).setCell (p := ⟨g, 2, none⟩) hg _).setCell (p := ⟨g, 3, none⟩) hg _
theorem below_set2 {w w1 : World} {B g : Nat} (h : Below B w w1) (hg : B ≤ g) (a b c d e : Value) :
    Below B w (((((w1.setCell ⟨g, 0, none⟩ a).setCell ⟨g, 1, none⟩ b).setCell ⟨g, 2, none⟩ c).setCell ⟨g, 3, none⟩ d).setCell ⟨g, 3, none⟩ e) :=
  (below_set h hg a b c d).setCell (p := ⟨g, 3, none⟩) hg _
theorem Four.set {w : World} {g : Nat} {a b c d : Value} (h : Four w g a b c d) (u v z y : Value) : Four ((((w.setCell ⟨g, 0, none⟩ u).setCell ⟨g, 1, none⟩ v).setCell ⟨g, 2, none⟩ z).setCell ⟨g, 3, none⟩ y) g u v z y := by
  obtain ⟨hl, h0, h1, h2, h3, f0, f1, f2, f3⟩ := h
  refine ⟨by simpa using hl, ?_, ?_, ?_, ?_, ?_, ?_, ?_, ?_⟩
  all_goals simp [h0, h1, h2, h3, f0, f1, f2, f3, go_sem]
theorem Four.set3 {w : World} {g : Nat} {a b c d : Value} (h : Four w g a b c d) (y : Value) : Four (w.setCell ⟨g, 3, none⟩ y) g a b c y := by
  obtain ⟨hl, h0, h1, h2, h3, f0, f1, f2, f3⟩ := h
  refine ⟨by simpa using hl, ?_, ?_, ?_, ?_, ?_, ?_, ?_, ?_⟩
  all_goals simp [h0, h1, h2, h3, f0, f1, f2, f3, go_sem]
/-- A token's bytes. -/
theorem few_bytes {t : ByteArray} {P : List Pc} {pos : Nat} {C Y : List Pc} {x : Pc} {f : Fd} (hP : Pcd P) (hA : At t P pos C (x :: Y)) (_ : tokF x Y = some f) : 1 ≤ (flat (x :: Y.take f.j)).length ∧ pos + (flat (x :: Y.take f.j)).length ≤ (flat P).length := by
  have hx := (hA.fitY hP x (by simp)).pos
  have e : flat P = flat C ++ (flat (x :: Y.take f.j) ++ flat (Y.drop f.j)) := by
    rw [← flat_append, ← flat_append, List.cons_append, List.take_append_drop, hA.1]
  have hl := congrArg List.length e
  rw [List.length_append, List.length_append, hA.2.2.1] at hl
  have h1 : (flat (x :: Y.take f.j)).length = x.2.length + (flat (Y.take f.j)).length := by rw [flat_cons, List.length_append]
  omega
def XRel (s : ByteArray) (w : World) (K pos : Nat) (v : Value) (ts : List Tk) (wr : World) : Prop :=
  wr.ownsRow w.heap.size 59 4 v ts.length (tkCells ts) ∧ wr.heap[K]? = some (.stringIter s pos) ∧ Below w.heap.size w wr
theorem four_news (w : World) (a b c d : Value) (t : TypeId) : ∀ (j : Nat) (u : Value), [a, b, c, d][j]? = some u → (w.alloc (.cells #[a, b, c, d] t)).cell? ((⟨w.heap.size, 0, none⟩ : Addr).add j) = some u := by
  intro j u hj
  have e : (⟨w.heap.size, 0, none⟩ : Addr).add j = ⟨w.heap.size, j, none⟩ := by unfold Addr.add; split <;> simp_all
  rw [e, cells_of_alloc]
  simpa using hj
theorem four_cells (K n a : Int) (s : ByteArray) : ∀ u ∈ [Value.int .i64 K, .string s, .int .i64 n, .int .i64 a], u.oneCell' = true := by
  intro u hu
  simp only [List.mem_cons, List.not_mem_nil, or_false] at hu
  rcases hu with rfl | rfl | rfl | rfl <;> rfl
theorem XRel.snoc {s : ByteArray} {w wB wC : World} {pos : Nat} {v v' : Value} {ts : List Tk} {k n a : Nat} {S : ByteArray} {l : List UInt8} {cs : Array Value} {ty : TypeId}
    (hown : wB.ownsRow w.heap.size 59 4 v ts.length (tkCells ts)) (hit : wB.heap[w.heap.size]? = some (.stringIter s pos)) (hbw : Below w.heap.size w wB) (hsz : w.heap.size < wB.heap.size)
    (hown' : wC.ownsRow w.heap.size 59 4 v' (ts.length + 1) (tkCells ts ++ [.int .i64 (k : Int), .string S, .int .i64 (n : Int), .int .i64 (a : Int)])) (hgrow : World.grownBy (wB.alloc (.cells cs ty)) wC v.ownBlock) (hS : (⟨l.toArray⟩ : ByteArray) = S) :
    XRel s w w.heap.size pos v' (ts ++ [⟨k, l, n, a⟩]) wC := by
  have hitA : (wB.alloc (.cells cs ty)).heap[w.heap.size]? = some (.stringIter s pos) := by rw [Below.heap_alloc _ _ _ hsz]; exact hit
  refine ⟨?_, ?_, ?_⟩
  · rw [List.length_append, List.length_singleton, tkCells_snoc]
    subst hS
    exact hown'
  · rw [hgrow.block w.heap.size (by rw [alloc_size]; omega) (iter_ne (hown.alloc _) hitA)]; exact hitA
  · exact (hbw.alloc (Nat.le_of_lt hsz) _).grown hgrow (by rw [alloc_size]; omega) (fun k hk => (hown.lt k hk).1)
theorem tk_end {w : World} {B : Nat} {e : TypeId} {v : Value} {ts : List Tk} {n : Nat} (h : w.ownsRow B e 4 v (ts.length + 1) (tkCells ts ++ [.int .i64 0, .string ⟨#[]⟩, .int .i64 0, .int .i64 (n : Int)])) :
    ∃ ao cap, v = .slice ao (ts.length + 1) cap ∧ ts.length + 1 ≤ cap ∧ TkAt w ao (ts ++ [endT n]) := by
  have e1 : (ts ++ [endT n]).length = ts.length + 1 := by rw [List.length_append, List.length_singleton]
  have e2 : tkCells (ts ++ [endT n]) = tkCells ts ++ [.int .i64 0, .string ⟨#[]⟩, .int .i64 0, .int .i64 (n : Int)] := by rw [tkCells_snoc]; rfl
  rw [← e1, ← e2] at h
  obtain ⟨ao, cap, h1, h2, h3⟩ := tk_slice h
  exact ⟨ao, cap, by rw [h1, e1], by omega, h3⟩

set_option maxHeartbeats 4000000 in
set_option maxRecDepth 1000000 in
theorem lex_any (s : ByteArray) (w : World) (hs : s.size ≤ 1099511627776) (hE : Env7 w) :
    Calls Tryz.prog 27 #[.string s] w (LexEnd s w) := by
  unfold LexEnd
  by_cases hs4 : 400 < s.size
  · have hz : (400 : Int) < (s.size : Int) := by omega
    go_enter Tryz.func27, Tryz.ntmps27
    go_wp2
    go_step3
    go_wp2
    rw [Exit.noGoto_ret]
    exact bodyPost_ret (v := .tuple #[.slice none 0 0, .int .i64 400, .int .i64 7]) (by simp [results, Tryz.results27, go_sem]) rfl ⟨Below.refl _ _, by rw [if_pos hs4]⟩
  · have hz : ¬ (400 : Int) < (s.size : Int) := by omega
    obtain ⟨i0, hi, hz0, hz1, hz2⟩ := info_parts (show (Tryz.prog.info? 59).map (fun i => (i.zero, i.size, i.bytes)) = some (some (.agg #[.int .i64 0, .string ⟨#[]⟩, .int .i64 0, .int .i64 0]), 4, 40) by kernel_rfl)
    obtain ⟨P, hP⟩ : ∃ P, pcs s.data.toList = P := ⟨_, rfl⟩
    have hst := LexAt.start hP
    obtain ⟨Z, hZ⟩ : ∃ Z, lexR P 0 = Z := ⟨_, rfl⟩
    have hZL : lexL s.data.toList = Z := by unfold lexL; rw [hP, hZ]
    rw [hZ] at hst
    have hPc : Pcd P := hP ▸ Pcd.of _
    have hPS : (flat P).length = s.size := by rw [← hP, flat_pcs, size_list]
    have hR0 : XRel s w w.heap.size 0 (.slice none 0 0) [] (w.iter s 0) := ⟨World.ownsRow_nil _ _ _ _, World.iter_heap w s 0, (Below.refl _ _).alloc (Nat.le_refl _) _⟩
    have HST := Lib.hid hst
    have HP := Lib.hid hP
    have HPC := Lib.hid hPc
    have HPS := Lib.hid hPS
    have HZ := Lib.hid hZL
    have HR0 := Lib.hid hR0
    clear hst hP hPc hPS hZ hZL hR0
    go_enter Tryz.func27, Tryz.ntmps27
    go_wp2
    go_step3
    go_wp2
    go_step3
    go_wp2
    go_loopg [5, 6] (P.length) (fun n s5 s6 wr => ∃ pos C Y next ts, Hid (LexAt s P Z pos C Y next ts) ∧ Hid (XRel s w w.heap.size pos s5 ts wr) ∧ Y.length = n ∧ pos ≤ s.size ∧ next ≤ 2000 ∧ s6 = .int .i64 (next : Int))
    case atStart => exact ⟨0, [], P, 0, [], HST, HR0, rfl, Nat.zero_le _, by decide, rfl⟩
    case round =>
      obtain ⟨pos, C, Y, next, ts, HA, HR, hn, hps, hnx0, rfl⟩ := hrel
      have hit := HR.out.2.1
      have hsz := (Array.getElem?_eq_some_iff.1 hit).1
      have hfew := HA.out.few HP.out
      clear HST HR0
      by_cases hp : pos < s.size
      · have hnx : ∀ ty, (Instr.next (.pointer (some ⟨w.heap.size, 0, none⟩)) true ty).run Tryz.prog wr = _ := fun ty => Lib.run_next_any_at wr w.heap.size s pos ty hit hp
        obtain ⟨hI, -, hbw⟩ := HR.out
        obtain ⟨hwd1, hwd2⟩ := width_in s pos hp
        have hr := Lib.rune_le s pos
        have hI2 := own_iterAt hI hit (pos + (Utf8.decode s pos).2)
        have hit2 := Lib.iterAt_heap wr w.heap.size s pos (pos + (Utf8.decode s pos).2) hit
        have hbw2 := Lib.below_iterAt hbw (k := w.heap.size) (Nat.le_refl _) s (pos + (Utf8.decode s pos).2)
        have hsz2 : w.heap.size ≤ (wr.iterAt w.heap.size s (pos + (Utf8.decode s pos).2)).heap.size := by rw [Lib.iterAt_size]; omega
        have hszk : w.heap.size < (wr.iterAt w.heap.size s (pos + (Utf8.decode s pos).2)).heap.size := by rw [Lib.iterAt_size]; omega
        obtain ⟨y, Y2, hY, hy1, hy2, -⟩ := HA.out.1.next hp
        subst hY
        simp only [List.length_cons] at hn
        have HY1 := Lib.hid hy1
        have HY2 := Lib.hid hy2
        obtain ⟨wr2, hwr2⟩ : ∃ wr2, wr.iterAt w.heap.size s (pos + (Utf8.decode s pos).2) = wr2 := ⟨_, rfl⟩
        rw [hwr2] at hI2 hit2 hbw2 hsz2 hszk hnx
        have hR2 : XRel s w w.heap.size (pos + (Utf8.decode s pos).2) u5 ts wr2 := ⟨hI2, hit2, hbw2⟩
        have HR2 := Lib.hid hR2
        clear hI hbw hit hR2 hy1 hy2 HR hwr2
        by_cases hlt : pos < next
        · have hltz : (pos : Int) < (next : Int) := by omega
          have hA2 := HA.out.skip HPC.out hlt
          rw [HY2.out] at hA2
          have HA2 := Lib.hid hA2
          clear hI2 hit2 hbw2 hA2
          go_wp2_with fail
          go_roundg Y2.length
          case measure => omega
          case rel => exact ⟨_, _, Y2, next, ts, HA2, HR2, rfl, by omega, hnx0, rfl⟩
        · have hltz : ¬ (pos : Int) < (next : Int) := by omega
          have hb3 := below_alloc wr2 (.cells #[.int .i64 0, .string ⟨#[]⟩, .int .i64 0, .int .i64 0] 59)
          have hF3 := four_new wr2 (.int .i64 0) (.string ⟨#[]⟩) (.int .i64 0) (.int .i64 0) 59
          obtain ⟨wr3, hwr3⟩ : ∃ wr3, wr2.alloc (.cells #[.int .i64 0, .string ⟨#[]⟩, .int .i64 0, .int .i64 0] 59) = wr3 := ⟨_, rfl⟩
          rw [hwr3] at hb3 hF3
          have hE3 := hE.later (below_to hbw2 hb3)
          have hpz : (pos : Int) ≤ (s.size : Int) := by omega
          have hxt : pcs (s.extract pos s.size).data.toList = y :: Y2 := by rw [tailList]; exact HA.out.1.2.1
          have hxs : (s.extract pos s.size).size ≤ 1000 := by rw [← size_list, tailList, List.length_drop, size_list]; omega
          have cK := fun w => class_any ((Utf8.decode s pos).1 : Int) w
          obtain ⟨r, hrr⟩ : ∃ r, (Utf8.decode s pos).1 = r := ⟨_, rfl⟩
          have hyr : y.1 = r := by rw [HY1.out, hrr]
          rw [hrr] at hnx hr cK
          have HYR := Lib.hid hyr
          clear hrr hyr HY1
          have hRow := hI2
          have HROW := Lib.hid hRow
          clear hI2 hRow
          have hRow := True.intro
          by_cases hc3 : classZ (r : Int) = 3
          · simp only [hc3] at cK
            have hA2 := HA.out.blank HPC.out hlt (by rw [HYR.out]; exact hc3)
            rw [HY2.out] at hA2
            have HA2 := Lib.hid hA2
            have hR3 : XRel s w w.heap.size (pos + (Utf8.decode s pos).2) u5 ts wr3 := ⟨own_later HROW.out hb3, (hb3.block w.heap.size hszk).trans hit2, below_to hbw2 hb3⟩
            have HR3 := Lib.hid hR3
            clear hA2 hR3 hit2 hbw2 hb3 hF3 hxt hE3 hc3
            go_wp2_with fail
            refine (cK _).mono ?_
            rintro e wa ⟨rfl, rfl⟩
            go_wp2_with fail
            go_roundg Y2.length
            case measure => omega
            case rel => exact ⟨_, _, Y2, next, ts, HA2, HR3, rfl, by omega, hnx0, rfl⟩
          · have HC3 := Lib.hid (show classZ (y.1 : Int) ≠ 3 by rw [HYR.out]; exact hc3)
            have hn3 : (classZ (r : Int) == 3) = false := beq_eq_false_iff_ne.2 hc3
            by_cases hc2 : classZ (r : Int) = 2
            · have cX := number_any (s.extract pos s.size) y Y2 wr3 (by omega) hxt (by rw [HYR.out]; exact hc2) hE3.errs
              rw [show numF y Y2 = tokF y Y2 by unfold tokF; rw [if_pos (by rw [HYR.out]; exact hc2)]] at cX
              simp only [hc2] at cK
              clear hc3 hn3 hc2 hxt hE3
              cases hO : tokF y Y2 with
              | none =>
                have hfin := HA.out.none HPC.out hlt HC3.out hO
                rw [hO] at cX
                unfold Told toldV at cX
                have HF := Lib.hid hfin
                clear hfin hO HR2 hRow hit2
                go_wp2_with fail
                refine (cK _).mono ?_
                rintro e wa ⟨rfl, rfl⟩
                go_wp2_with fail
                refine cX.mono ?_
                rintro e wb ⟨rfl, b4⟩
                obtain ⟨-, z0, z1, z2, z3, f0, f1, f2, f3⟩ := hF3.later b4
                have hbz := below_set (below_to hb3 b4) (Nat.le_refl _) (.int .i64 0) (.string ⟨#[]⟩) (.int .i64 0) (.int .i64 0)
                have hbw5 := hbw2.trans (hbz.mono hsz2)
                clear cX cK hF3 hb3 b4 hbw2 hbz
                go_wp2_with fail
                rw [Exit.noGoto_ret]
                exact bodyPost_ret (v := .tuple #[.slice none 0 0, .int .i64 (pos : Int), .int .i64 5]) (by simp [results, Tryz.results27, go_sem]) rfl ⟨hbw5, by rw [if_neg hs4, HZ.out, HF.out]⟩
              | some f =>
                have hA3 := HA.out.some HPC.out hlt HC3.out hO
                rw [HY2.out] at hA3
                rw [hO] at cX
                unfold Told toldV at cX
                dsimp only at cX
                have hfw := few_bytes HPC.out HA.out.1 hO
                rw [HPS.out] at hfw
                obtain ⟨nf, hnf⟩ : ∃ nf, (flat (y :: Y2.take f.j)).length = nf := ⟨_, rfl⟩
                rw [hnf] at cX hA3 hfw
                have htl := hA3.few HP.out
                rw [List.length_append, List.length_singleton] at htl
                have htk : f.tk pos = ⟨f.k, f.s, f.n, pos⟩ := rfl
                rw [htk] at hA3
                generalize f.k = K4 at cX hA3
                generalize f.n = N4 at cX hA3
                obtain ⟨S4, hS4⟩ : ∃ S4 : ByteArray, (⟨f.s.toArray⟩ : ByteArray) = S4 := ⟨_, rfl⟩
                rw [hS4] at cX
                have HA3 := Lib.hid hA3
                have HS4 := Lib.hid hS4
                have hn0 : ((nf : Int) == 0) = false := beq_eq_false_iff_ne.2 (by omega)
                clear hA3 hS4 hnf hO htk HR2 HA
                go_wp2_with fail
                refine (cK _).mono ?_
                rintro e wa ⟨rfl, rfl⟩
                go_wp2_with fail
                refine cX.mono ?_
                rintro e wb ⟨rfl, b4⟩
                have hFa := (hF3.later b4).set (.int .i64 (K4 : Int)) (.string S4) (.int .i64 (N4 : Int)) (.int .i64 0)
                have hBa := below_set (below_to hb3 b4) (Nat.le_refl _) (.int .i64 (K4 : Int)) (.string S4) (.int .i64 (N4 : Int)) (.int .i64 0)
                obtain ⟨-, z0, z1, z2, z3, f0, f1, f2, f3⟩ := hF3.later b4
                clear cX cK hF3 hb3 b4 hwr3
                go_upto_region 18 with fail
                generalize hWa : (((wb.setCell ⟨wr2.heap.size, 0, none⟩ (.int .i64 (K4 : Int))).setCell ⟨wr2.heap.size, 1, none⟩ (.string S4)).setCell ⟨wr2.heap.size, 2, none⟩ (.int .i64 (N4 : Int))).setCell ⟨wr2.heap.size, 3, none⟩ (.int .i64 0) = wA at *
                clear hWa z0 z1 z2 z3 f0 f1 f2 f3
                have hFb := hFa.set3 (.int .i64 (pos : Int))
                have hBb := hBa.setCell (p := ⟨wr2.heap.size, 3, none⟩) (Nat.le_refl _) (.int .i64 (pos : Int))
                obtain ⟨-, z0, z1, z2, z3, f0, f1, f2, f3⟩ := hFa
                go_upto_region 21 with fail
                generalize hWb : wA.setCell ⟨wr2.heap.size, 3, none⟩ (.int .i64 (pos : Int)) = wB at *
                clear hWb z0 z1 z2 z3 f0 f1 f2 f3 hBa
                obtain ⟨-, z0, z1, z2, z3, f0, f1, f2, f3⟩ := hFb
                have hown := own_later HROW.out hBb
                have hitB := (hBb.block w.heap.size hszk).trans hit2
                have hbwB := hbw2.trans (hBb.mono hsz2)
                have hszB : w.heap.size < wB.heap.size := Nat.lt_of_lt_of_le hszk hBb.size
                have HOWN := Lib.hid hown
                have HITB := Lib.hid hitB
                have HBWB := Lib.hid hbwB
                clear hown hitB hbwB hBb hit2 hbw2 HROW
                go_wp2_with (at_builtin; refine wpList_append_own _ rfl _ _ 50 rfl w.heap.size 59 i0 _ 4 40 Tryz.underlying50 hi hz0 hz1 hz2 rfl (by decide) _ _ _ rfl (HOWN.out.alloc _) ⟨wB.heap.size, 0, none⟩ 1 1 [.int .i64 (K4 : Int), .string S4, .int .i64 (N4 : Int), .int .i64 (pos : Int)] rfl rfl ?c1 ?c2 ?c3 ?c4 ?c5 ?_)
                case c1 => exact four_news _ _ _ _ _ _
                case c2 => exact four_cells _ _ _ _
                case c3 => unfold maxLen; omega
                case c4 => omega
                case c5 => rw [alloc_size]; omega
                intro v' wC hown' hgrow _
                have hR4 : XRel s w w.heap.size (pos + (Utf8.decode s pos).2) v' (ts ++ [⟨K4, f.s, N4, pos⟩]) wC := XRel.snoc HOWN.out HITB.out HBWB.out hszB hown' hgrow HS4.out
                have HR4 := Lib.hid hR4
                clear hown' hgrow hR4 z0 z1 z2 z3 f0 f1 f2 f3
                go_wp2_with fail
                go_roundg Y2.length
                case measure => omega
                case rel => exact ⟨_, _, Y2, pos + nf, _, HA3, HR4, rfl, by omega, by omega, by go_num⟩
            · by_cases hc1 : classZ (r : Int) = 1
              · have cX := name_any (s.extract pos s.size) y Y2 wr3 (by omega) hxt (by rw [HYR.out]; exact hc1)
                rw [show nameF y Y2 = tokF y Y2 by unfold tokF; rw [if_neg (by rw [HYR.out]; exact hc2), if_pos (by rw [HYR.out]; exact hc1)]] at cX
                simp only [hc1] at cK
                clear hc3 hn3 hc2 hc1 hxt hE3
                cases hO : tokF y Y2 with
                | none =>
                  have hfin := HA.out.none HPC.out hlt HC3.out hO
                  rw [hO] at cX
                  unfold Told toldV at cX
                  have HF := Lib.hid hfin
                  clear hfin hO HR2 hRow hit2
                  go_wp2_with fail
                  refine (cK _).mono ?_
                  rintro e wa ⟨rfl, rfl⟩
                  go_wp2_with fail
                  refine cX.mono ?_
                  rintro e wb ⟨rfl, b4⟩
                  obtain ⟨-, z0, z1, z2, z3, f0, f1, f2, f3⟩ := hF3.later b4
                  have hbz := below_set (below_to hb3 b4) (Nat.le_refl _) (.int .i64 0) (.string ⟨#[]⟩) (.int .i64 0) (.int .i64 0)
                  have hbw5 := hbw2.trans (hbz.mono hsz2)
                  clear cX cK hF3 hb3 b4 hbw2 hbz
                  go_wp2_with fail
                  rw [Exit.noGoto_ret]
                  exact bodyPost_ret (v := .tuple #[.slice none 0 0, .int .i64 (pos : Int), .int .i64 5]) (by simp [results, Tryz.results27, go_sem]) rfl ⟨hbw5, by rw [if_neg hs4, HZ.out, HF.out]⟩
                | some f =>
                  have hA3 := HA.out.some HPC.out hlt HC3.out hO
                  rw [HY2.out] at hA3
                  rw [hO] at cX
                  unfold Told toldV at cX
                  dsimp only at cX
                  have hfw := few_bytes HPC.out HA.out.1 hO
                  rw [HPS.out] at hfw
                  obtain ⟨nf, hnf⟩ : ∃ nf, (flat (y :: Y2.take f.j)).length = nf := ⟨_, rfl⟩
                  rw [hnf] at cX hA3 hfw
                  have htl := hA3.few HP.out
                  rw [List.length_append, List.length_singleton] at htl
                  have htk : f.tk pos = ⟨f.k, f.s, f.n, pos⟩ := rfl
                  rw [htk] at hA3
                  generalize f.k = K4 at cX hA3
                  generalize f.n = N4 at cX hA3
                  obtain ⟨S4, hS4⟩ : ∃ S4 : ByteArray, (⟨f.s.toArray⟩ : ByteArray) = S4 := ⟨_, rfl⟩
                  rw [hS4] at cX
                  have HA3 := Lib.hid hA3
                  have HS4 := Lib.hid hS4
                  have hn0 : ((nf : Int) == 0) = false := beq_eq_false_iff_ne.2 (by omega)
                  clear hA3 hS4 hnf hO htk HR2 HA
                  go_wp2_with fail
                  refine (cK _).mono ?_
                  rintro e wa ⟨rfl, rfl⟩
                  go_wp2_with fail
                  refine cX.mono ?_
                  rintro e wb ⟨rfl, b4⟩
                  have hFa := (hF3.later b4).set (.int .i64 (K4 : Int)) (.string S4) (.int .i64 (N4 : Int)) (.int .i64 0)
                  have hBa := below_set (below_to hb3 b4) (Nat.le_refl _) (.int .i64 (K4 : Int)) (.string S4) (.int .i64 (N4 : Int)) (.int .i64 0)
                  obtain ⟨-, z0, z1, z2, z3, f0, f1, f2, f3⟩ := hF3.later b4
                  clear cX cK hF3 hb3 b4 hwr3
                  go_upto_region 18 with fail
                  generalize hWa : (((wb.setCell ⟨wr2.heap.size, 0, none⟩ (.int .i64 (K4 : Int))).setCell ⟨wr2.heap.size, 1, none⟩ (.string S4)).setCell ⟨wr2.heap.size, 2, none⟩ (.int .i64 (N4 : Int))).setCell ⟨wr2.heap.size, 3, none⟩ (.int .i64 0) = wA at *
                  clear hWa z0 z1 z2 z3 f0 f1 f2 f3
                  have hFb := hFa.set3 (.int .i64 (pos : Int))
                  have hBb := hBa.setCell (p := ⟨wr2.heap.size, 3, none⟩) (Nat.le_refl _) (.int .i64 (pos : Int))
                  obtain ⟨-, z0, z1, z2, z3, f0, f1, f2, f3⟩ := hFa
                  go_upto_region 21 with fail
                  generalize hWb : wA.setCell ⟨wr2.heap.size, 3, none⟩ (.int .i64 (pos : Int)) = wB at *
                  clear hWb z0 z1 z2 z3 f0 f1 f2 f3 hBa
                  obtain ⟨-, z0, z1, z2, z3, f0, f1, f2, f3⟩ := hFb
                  have hown := own_later HROW.out hBb
                  have hitB := (hBb.block w.heap.size hszk).trans hit2
                  have hbwB := hbw2.trans (hBb.mono hsz2)
                  have hszB : w.heap.size < wB.heap.size := Nat.lt_of_lt_of_le hszk hBb.size
                  have HOWN := Lib.hid hown
                  have HITB := Lib.hid hitB
                  have HBWB := Lib.hid hbwB
                  clear hown hitB hbwB hBb hit2 hbw2 HROW
                  go_wp2_with (at_builtin; refine wpList_append_own _ rfl _ _ 50 rfl w.heap.size 59 i0 _ 4 40 Tryz.underlying50 hi hz0 hz1 hz2 rfl (by decide) _ _ _ rfl (HOWN.out.alloc _) ⟨wB.heap.size, 0, none⟩ 1 1 [.int .i64 (K4 : Int), .string S4, .int .i64 (N4 : Int), .int .i64 (pos : Int)] rfl rfl ?c1 ?c2 ?c3 ?c4 ?c5 ?_)
                  case c1 => exact four_news _ _ _ _ _ _
                  case c2 => exact four_cells _ _ _ _
                  case c3 => unfold maxLen; omega
                  case c4 => omega
                  case c5 => rw [alloc_size]; omega
                  intro v' wC hown' hgrow _
                  have hR4 : XRel s w w.heap.size (pos + (Utf8.decode s pos).2) v' (ts ++ [⟨K4, f.s, N4, pos⟩]) wC := XRel.snoc HOWN.out HITB.out HBWB.out hszB hown' hgrow HS4.out
                  have HR4 := Lib.hid hR4
                  clear hown' hgrow hR4 z0 z1 z2 z3 f0 f1 f2 f3
                  go_wp2_with fail
                  go_roundg Y2.length
                  case measure => omega
                  case rel => exact ⟨_, _, Y2, pos + nf, _, HA3, HR4, rfl, by omega, by omega, by go_num⟩
              · have cX := other_any (s.extract pos s.size) y Y2 wr3 hxs hxt hE3.tabs
                rw [show (if y.1 = 34 then textT Y2 else signF y Y2) = tokF y Y2 by unfold tokF; rw [if_neg (show ¬ classZ (y.1 : Int) = 2 by rw [HYR.out]; exact hc2), if_neg (show ¬ classZ (y.1 : Int) = 1 by rw [HYR.out]; exact hc1)]] at cX
                have hn2 : (classZ (r : Int) == 2) = false := beq_eq_false_iff_ne.2 hc2
                have hn1 : (classZ (r : Int) == 1) = false := beq_eq_false_iff_ne.2 hc1
                generalize classZ (r : Int) = KK at cK hn3 hn2 hn1
                clear hc3 hc2 hc1 hxt hE3
                cases hO : tokF y Y2 with
                | none =>
                  have hfin := HA.out.none HPC.out hlt HC3.out hO
                  rw [hO] at cX
                  unfold Told toldV at cX
                  have HF := Lib.hid hfin
                  clear hfin hO HR2 hRow hit2
                  go_wp2_with fail
                  refine (cK _).mono ?_
                  rintro e wa ⟨rfl, rfl⟩
                  go_wp2_with fail
                  refine cX.mono ?_
                  rintro e wb ⟨rfl, b4⟩
                  obtain ⟨-, z0, z1, z2, z3, f0, f1, f2, f3⟩ := hF3.later b4
                  have hbz := below_set (below_to hb3 b4) (Nat.le_refl _) (.int .i64 0) (.string ⟨#[]⟩) (.int .i64 0) (.int .i64 0)
                  have hbw5 := hbw2.trans (hbz.mono hsz2)
                  clear cX cK hF3 hb3 b4 hbw2 hbz
                  go_wp2_with fail
                  rw [Exit.noGoto_ret]
                  exact bodyPost_ret (v := .tuple #[.slice none 0 0, .int .i64 (pos : Int), .int .i64 5]) (by simp [results, Tryz.results27, go_sem]) rfl ⟨hbw5, by rw [if_neg hs4, HZ.out, HF.out]⟩
                | some f =>
                  have hA3 := HA.out.some HPC.out hlt HC3.out hO
                  rw [HY2.out] at hA3
                  rw [hO] at cX
                  unfold Told toldV at cX
                  dsimp only at cX
                  have hfw := few_bytes HPC.out HA.out.1 hO
                  rw [HPS.out] at hfw
                  obtain ⟨nf, hnf⟩ : ∃ nf, (flat (y :: Y2.take f.j)).length = nf := ⟨_, rfl⟩
                  rw [hnf] at cX hA3 hfw
                  have htl := hA3.few HP.out
                  rw [List.length_append, List.length_singleton] at htl
                  have htk : f.tk pos = ⟨f.k, f.s, f.n, pos⟩ := rfl
                  rw [htk] at hA3
                  generalize f.k = K4 at cX hA3
                  generalize f.n = N4 at cX hA3
                  obtain ⟨S4, hS4⟩ : ∃ S4 : ByteArray, (⟨f.s.toArray⟩ : ByteArray) = S4 := ⟨_, rfl⟩
                  rw [hS4] at cX
                  have HA3 := Lib.hid hA3
                  have HS4 := Lib.hid hS4
                  have hn0 : ((nf : Int) == 0) = false := beq_eq_false_iff_ne.2 (by omega)
                  clear hA3 hS4 hnf hO htk HR2 HA
                  go_wp2_with fail
                  refine (cK _).mono ?_
                  rintro e wa ⟨rfl, rfl⟩
                  go_wp2_with fail
                  refine cX.mono ?_
                  rintro e wb ⟨rfl, b4⟩
                  have hFa := (hF3.later b4).set (.int .i64 (K4 : Int)) (.string S4) (.int .i64 (N4 : Int)) (.int .i64 0)
                  have hBa := below_set (below_to hb3 b4) (Nat.le_refl _) (.int .i64 (K4 : Int)) (.string S4) (.int .i64 (N4 : Int)) (.int .i64 0)
                  obtain ⟨-, z0, z1, z2, z3, f0, f1, f2, f3⟩ := hF3.later b4
                  clear cX cK hF3 hb3 b4 hwr3
                  go_upto_region 18 with fail
                  generalize hWa : (((wb.setCell ⟨wr2.heap.size, 0, none⟩ (.int .i64 (K4 : Int))).setCell ⟨wr2.heap.size, 1, none⟩ (.string S4)).setCell ⟨wr2.heap.size, 2, none⟩ (.int .i64 (N4 : Int))).setCell ⟨wr2.heap.size, 3, none⟩ (.int .i64 0) = wA at *
                  clear hWa z0 z1 z2 z3 f0 f1 f2 f3
                  have hFb := hFa.set3 (.int .i64 (pos : Int))
                  have hBb := hBa.setCell (p := ⟨wr2.heap.size, 3, none⟩) (Nat.le_refl _) (.int .i64 (pos : Int))
                  obtain ⟨-, z0, z1, z2, z3, f0, f1, f2, f3⟩ := hFa
                  go_upto_region 21 with fail
                  generalize hWb : wA.setCell ⟨wr2.heap.size, 3, none⟩ (.int .i64 (pos : Int)) = wB at *
                  clear hWb z0 z1 z2 z3 f0 f1 f2 f3 hBa
                  obtain ⟨-, z0, z1, z2, z3, f0, f1, f2, f3⟩ := hFb
                  have hown := own_later HROW.out hBb
                  have hitB := (hBb.block w.heap.size hszk).trans hit2
                  have hbwB := hbw2.trans (hBb.mono hsz2)
                  have hszB : w.heap.size < wB.heap.size := Nat.lt_of_lt_of_le hszk hBb.size
                  have HOWN := Lib.hid hown
                  have HITB := Lib.hid hitB
                  have HBWB := Lib.hid hbwB
                  clear hown hitB hbwB hBb hit2 hbw2 HROW
                  go_wp2_with (at_builtin; refine wpList_append_own _ rfl _ _ 50 rfl w.heap.size 59 i0 _ 4 40 Tryz.underlying50 hi hz0 hz1 hz2 rfl (by decide) _ _ _ rfl (HOWN.out.alloc _) ⟨wB.heap.size, 0, none⟩ 1 1 [.int .i64 (K4 : Int), .string S4, .int .i64 (N4 : Int), .int .i64 (pos : Int)] rfl rfl ?c1 ?c2 ?c3 ?c4 ?c5 ?_)
                  case c1 => exact four_news _ _ _ _ _ _
                  case c2 => exact four_cells _ _ _ _
                  case c3 => unfold maxLen; omega
                  case c4 => omega
                  case c5 => rw [alloc_size]; omega
                  intro v' wC hown' hgrow _
                  have hR4 : XRel s w w.heap.size (pos + (Utf8.decode s pos).2) v' (ts ++ [⟨K4, f.s, N4, pos⟩]) wC := XRel.snoc HOWN.out HITB.out HBWB.out hszB hown' hgrow HS4.out
                  have HR4 := Lib.hid hR4
                  clear hown' hgrow hR4 z0 z1 z2 z3 f0 f1 f2 f3
                  go_wp2_with fail
                  go_roundg Y2.length
                  case measure => omega
                  case rel => exact ⟨_, _, Y2, pos + nf, _, HA3, HR4, rfl, by omega, by omega, by go_num⟩
      · have hnx : ∀ ty, (Instr.next (.pointer (some ⟨w.heap.size, 0, none⟩)) true ty).run Tryz.prog wr = _ := fun ty => Lib.run_next_end_at wr w.heap.size s pos ty hit hp
        obtain ⟨hY, -, -⟩ := HA.out.1.done hp
        subst hY
        have hfin := HA.out.over
        have HF := Lib.hid hfin
        have HOWN := Lib.hid HR.out.1
        have HBW := Lib.hid HR.out.2.2
        clear hfin hit HR
        go_wp2_with (at_builtin; refine wpList_append_own _ rfl _ _ 50 rfl w.heap.size 59 i0 _ 4 40 Tryz.underlying50 hi hz0 hz1 hz2 rfl (by decide) _ _ _ rfl (HOWN.out.alloc _) ⟨wr.heap.size, 0, none⟩ 1 1 [.int .i64 0, .string ⟨#[]⟩, .int .i64 0, .int .i64 (s.size : Int)] rfl rfl ?c1 ?c2 ?c3 ?c4 ?c5 ?_)
        case c1 => exact four_news _ _ _ _ _ _
        case c2 => exact four_cells _ _ _ _
        case c3 => unfold maxLen; omega
        case c4 => omega
        case c5 => rw [alloc_size]; omega
        intro v' wC hown' hgrow _
        have hbC : Below w.heap.size w wC := (HBW.out.alloc (Nat.le_of_lt hsz) _).grown hgrow (by rw [alloc_size]; omega) (fun k hk => (HOWN.out.lt k hk).1)
        obtain ⟨ao, cap, rfl, hcap, hTk⟩ := tk_end hown'
        go_wp2_with fail
        rw [Exit.noGoto_ret]
        exact bodyPost_ret (v := .tuple #[.slice ao (ts.length + 1 : Nat) cap, .int .i64 0, .int .i64 0]) (by simp [results, Tryz.results27, go_sem]) rfl ⟨hbC, by rw [if_neg hs4, HZ.out, HF.out]; exact ⟨ao, cap, rfl, hcap, hTk⟩⟩
end
/- What Lex tells, case by case. -/
section
open Go.RowKit

/-- What Lex tells of a formula that has tokens; of one that has none. -/
theorem lex_yes (s : ByteArray) (ts : List Tk) (w : World) (hs : s.size ≤ 400) (h : lexL s.data.toList = .ok ts) (hE : Env7 w) :
    Calls Tryz.prog 27 #[.string s] w fun e w' => Below w.heap.size w w' ∧ ∃ ao cap, e = .returned (.tuple #[.slice ao (ts.length + 1 : Nat) cap, .int .i64 0, .int .i64 0]) ∧ ts.length + 1 ≤ cap ∧ TkAt w' ao (ts ++ [endT s.size]) := by
  refine (lex_any s w (by omega) hE).mono ?_
  rintro e w' ⟨h1, h2⟩
  rw [if_neg (by omega), h] at h2
  exact ⟨h1, h2⟩
theorem lex_no (s : ByteArray) (p : Nat) (w : World) (hs : s.size ≤ 400) (h : lexL s.data.toList = .error p) (hE : Env7 w) :
    Calls Tryz.prog 27 #[.string s] w fun e w' => Below w.heap.size w w' ∧ e = .returned (.tuple #[.slice none 0 0, .int .i64 (p : Int), .int .i64 5]) := by
  refine (lex_any s w (by omega) hE).mono ?_
  rintro e w' ⟨h1, h2⟩
  rw [if_neg (by omega), h] at h2
  exact ⟨h1, h2⟩
theorem lex_deep (s : ByteArray) (w : World) (hs : s.size ≤ 1099511627776) (h : 400 < s.size) (hE : Env7 w) :
    Calls Tryz.prog 27 #[.string s] w fun e w' => Below w.heap.size w w' ∧ e = .returned (.tuple #[.slice none 0 0, .int .i64 400, .int .i64 7]) := by
  refine (lex_any s w hs hE).mono ?_
  rintro e w' ⟨h1, h2⟩
  rw [if_pos h] at h2
  exact ⟨h1, h2⟩
end
/- The contract of lex.Quote: for every string of at most 2^40 bytes, the text as it is written in a formula. -/
section
open Go.RowKit

theorem quoteM_at (s : ByteArray) (pos : Nat) (h : pos < s.size) : quoteM (s.data.toList.drop pos) = quoteR (Utf8.decode s pos).1 ++ quoteM (s.data.toList.drop (pos + (Utf8.decode s pos).2)) := by
  rw [quoteM_step _ (drop_ne s pos h), Lib.decodeL_drop, List.drop_drop]
theorem quoteR_len6 (r : Nat) : (quoteR r).length ≤ 6 := by
  unfold quoteR
  split
  · simp
  · split
    · simp [hexL]
    · have := Lib.runeCells_le (r : Int); rw [Lib.runeCells_length] at this; omega
def QRel (s : ByteArray) (B K : Nat) (w wr : World) (pos : Nat) (acc : List UInt8) : Prop :=
  Lib.IsBuilderF 98 5 B B (Lib.byteCells acc) wr ∧ wr.heap[K]? = some (.stringIter s pos) ∧ Below B w wr ∧ acc ++ (quoteM (s.data.toList.drop pos) ++ [34]) = quoteL s.data.toList ∧ acc.length ≤ 1 + 6 * pos ∧ pos ≤ s.size
theorem byteCells_snoc (l : List UInt8) (c : UInt8) : Lib.byteCells l ++ [.int .u8 (c.toNat : Int)] = Lib.byteCells (l ++ [c]) := by simp [Lib.byteCells]
theorem QRel.next {s : ByteArray} {B K : Nat} {w w2 : World} {pos : Nat} {acc N : List UInt8} (hp : pos < s.size) (hacc : acc ++ (quoteM (s.data.toList.drop pos) ++ [34]) = quoteL s.data.toList) (hal : acc.length ≤ 1 + 6 * pos) (hN : quoteR (Utf8.decode s pos).1 = N)
    (h1 : Lib.IsBuilderF 98 5 B B (Lib.byteCells (acc ++ N)) w2) (hit : w2.heap[K]? = some (.stringIter s (pos + (Utf8.decode s pos).2))) (hb : Below B w w2) :
    ∃ pos acc, QRel s B K w w2 pos acc := by
  subst hN
  obtain ⟨hw1, hw2⟩ := width_in s pos hp
  refine ⟨pos + (Utf8.decode s pos).2, acc ++ quoteR (Utf8.decode s pos).1, h1, hit, hb, ?_, ?_, hw2⟩
  · rw [quoteM_at s pos hp, List.append_assoc] at hacc
    rw [List.append_assoc]; exact hacc
  · have := quoteR_len6 (Utf8.decode s pos).1
    rw [List.length_append]; omega
theorem and_15 : ∀ r : Fin 160, bits .and .i32 ((r.val : Nat) : Int) 15 = ((r.val % 16 : Nat) : Int) := by decide +kernel
theorem dig_get : ∀ d : Fin 16, ((⟨#[48, 49, 50, 51, 52, 53, 54, 55, 56, 57, 97, 98, 99, 100, 101, 102]⟩ : ByteArray)[d.val]'(by exact d.isLt)).toNat = (hx d.val).toNat := by decide +kernel

set_option maxHeartbeats 4000000 in
set_option maxRecDepth 1000000 in
theorem quote_any (s : ByteArray) (w : World) (hs : s.size ≤ 1099511627776) :
    Calls Tryz.prog 46 #[.string s] w fun e w' => e = .returned (.string ⟨(quoteL s.data.toList).toArray⟩) ∧ Below w.heap.size w w' := by
  have hF := Lib.IsBuilderF.of (Lib.fresh_isBuilder 98 5 w)
  have c1 := bWriteByte w.heap.size w.heap.size [] 34 _ hF (by simp) (by simp)
  clear hF
  go_enter Tryz.func46, Tryz.ntmps46
  go_wp2_with fail
  refine c1.mono ?_
  rintro e wG ⟨rfl, hG, hbG0, -⟩
  have hbG : Below w.heap.size w wG := (below_alloc w _).trans hbG0
  have hK0 : w.heap.size < wG.heap.size := Nat.lt_of_lt_of_le (by simp) hbG0.size
  clear hbG0 c1
  have h0 : QRel s w.heap.size wG.heap.size w (wG.iter s 0) 0 [34] :=
    ⟨Lib.IsBuilderF.alloc (Or.inr hG) _, World.iter_heap wG s 0, hbG.alloc (by omega) _, rfl, by simp, by omega⟩
  clear hG hbG
  have H0 := Lib.hid h0
  clear h0
  go_wp2
  go_loopw [] (fun wr => ∃ pos acc, QRel s w.heap.size wG.heap.size w wr pos acc) (fun wr => s.size - wr.iterPos wG.heap.size)
  case atStart => exact ⟨0, [34], H0.out⟩
  case round =>
    obtain ⟨pos, acc, hI, hit, hbw, hacc, hal, hps⟩ := hrel
    have hsz : wG.heap.size < wr.heap.size := (Array.getElem?_eq_some_iff.1 hit).1
    clear H0
    by_cases hp : pos < s.size
    · have hnx : ∀ ty, (Instr.next (.pointer (some ⟨wG.heap.size, 0, none⟩)) true ty).run Tryz.prog wr = _ := fun ty => Lib.run_next_any_at wr wG.heap.size s pos ty hit hp
      obtain ⟨hw1, hw2⟩ := width_in s pos hp
      have hr := Lib.rune_le s pos
      have hI2 := hI.iterAt hit (pos + (Utf8.decode s pos).2)
      have hit2 := Lib.iterAt_heap wr wG.heap.size s pos (pos + (Utf8.decode s pos).2) hit
      have hbw2 := Lib.below_iterAt hbw (k := wG.heap.size) (by omega) s (pos + (Utf8.decode s pos).2)
      have hsz2 : w.heap.size ≤ (wr.iterAt wG.heap.size s (pos + (Utf8.decode s pos).2)).heap.size := by rw [Lib.iterAt_size]; omega
      have hacc' := Lib.hid hacc
      have HIT := Lib.hid hit
      clear hacc hI hit hbw
      obtain ⟨r, hrr⟩ : ∃ r, (Utf8.decode s pos).1 = r := ⟨_, rfl⟩
      rw [hrr] at hnx hr
      have HRR := Lib.hid hrr
      clear hrr
      have cC := fun w => control_any r w
      by_cases hc : Ctrl r
      · simp only [hc, decide_true] at cC
        have hlt : r < 160 := by unfold Ctrl at hc; omega
        have hq : quoteR r = [92, 117, 48, 48] ++ [hx (r / 16)] ++ [hx (r % 16)] := quoteR_ctrl (by unfold Ctrl at hc; omega) hc
        have HQ := Lib.hid hq
        obtain ⟨d1, hd1⟩ : ∃ d1, r / 16 = d1 := ⟨_, rfl⟩
        obtain ⟨d2, hd2⟩ : ∃ d2, r % 16 = d2 := ⟨_, rfl⟩
        have hs1 : (r : Int) / 16 = (d1 : Int) := by omega
        have hs2 : (r : Int) / 2 ^ 4 = (d1 : Int) := by rw [show (2 : Int) ^ 4 = 16 by decide]; exact hs1
        have hs3 : bits .and .i32 (r : Int) 15 = (d2 : Int) := by have := and_15 ⟨r, hlt⟩; rw [← hd2]; exact this
        have hd16 : d1 < 16 := by omega
        have he16 : d2 < 16 := by omega
        have g1 := dig_get ⟨d1, hd16⟩
        have g2 := dig_get ⟨d2, he16⟩
        dsimp only at g1 g2
        have hz1 : (d1 : Int) < 16 := by omega
        have hz2 : (d2 : Int) < 16 := by omega
        rw [hd1, hd2] at hq
        have HQ2 := Lib.hid hq
        clear hc hq hd1 hd2 HQ
        go_wp2_with fail
        refine (cC _).mono ?_
        rintro e w0 ⟨rfl, rfl⟩
        clear cC
        go_wp2_with fail
        refine (bWriteString w.heap.size w.heap.size _ ⟨#[92, 117, 48, 48]⟩ _ hI2 (by rw [Lib.byteCells_length, show (⟨#[92, 117, 48, 48]⟩ : ByteArray).size = 4 from rfl]; omega) hsz2).mono ?_
        rintro e w1 ⟨rfl, h1, b1, k1⟩
        have hit3 := k1.iter hit2 (by omega)
        have hbw3 := hbw2.trans b1
        rw [show Lib.byteCells acc ++ Lib.strCells ⟨#[92, 117, 48, 48]⟩ = Lib.byteCells (acc ++ [92, 117, 48, 48]) by rw [Lib.byteCells_append]; rfl] at h1
        clear hI2 hit2 hbw2 b1 k1
        go_wp2_with fail
        refine (bWriteByte w.heap.size w.heap.size _ _ _ (Or.inr h1) (by rw [Lib.byteCells_length, List.length_append]; simp; omega) hbw3.size).mono ?_
        rintro e w2 ⟨rfl, h2, b2, k2⟩
        have hit4 := k2.iter hit3 (by omega)
        have hbw4 := hbw3.trans b2
        rw [byteCells_snoc] at h2
        clear h1 hit3 hbw3 b2 k2
        go_wp2_with fail
        refine (bWriteByte w.heap.size w.heap.size _ _ _ (Or.inr h2) (by rw [Lib.byteCells_length, List.length_append, List.length_append]; simp; omega) hbw4.size).mono ?_
        rintro e w3 ⟨rfl, h3, b3, k3⟩
        have hit5 := k3.iter hit4 (by omega)
        have hbw5 := hbw4.trans b3
        rw [byteCells_snoc, List.append_assoc, List.append_assoc, ← List.append_assoc [92, 117, 48, 48]] at h3
        clear h2 hit4 hbw4 b3 k3
        go_wp2
        go_roundw
        case rel => exact QRel.next hp hacc'.out hal (by rw [HRR.out]; exact HQ2.out) (Or.inr h3) hit5 hbw5
        case measure =>
          simp only [World.iterPos, hit5, HIT.out]
          omega
      · simp only [hc, decide_false] at cC
        by_cases hq : r = 34 ∨ r = 92
        · have hqr : quoteR r = [92] ++ Lib.encodeRune (r : Int) := quoteR_sign hq
          have HQ := Lib.hid hqr
          have hwa : ((r : Int) == 34) = true ∨ (((r : Int) == 34) = false ∧ ((r : Int) == 92) = true) := by
            rcases hq with rfl | rfl
            · exact .inl rfl
            · exact .inr ⟨rfl, rfl⟩
          clear hqr hq hc
          rcases hwa with t1 | ⟨t1, t2⟩
          all_goals
            go_wp2_with fail
            refine (cC _).mono ?_
            rintro e w0 ⟨rfl, rfl⟩
            go_wp2_with fail
            refine (bWriteByte w.heap.size w.heap.size _ 92 _ hI2 (by rw [Lib.byteCells_length]; omega) hsz2).mono ?_
            rintro e w1 ⟨rfl, h1, b1, k1⟩
            have hit3 := k1.iter hit2 (by omega)
            have hbw3 := hbw2.trans b1
            rw [show (Value.int .u8 92) = Value.int .u8 (((92 : UInt8).toNat : Nat) : Int) from rfl, byteCells_snoc] at h1
            clear hI2 hit2 hbw2 b1 k1
            go_wp2_with fail
            refine (bWriteRune w.heap.size w.heap.size _ _ (by omega) (by omega) _ (Or.inr h1) (by rw [Lib.byteCells_length, List.length_append]; simp; omega) hbw3.size).mono ?_
            rintro e w2 ⟨rfl, h2, b2, k2⟩
            have hit4 := k2.iter hit3 (by omega)
            rw [← Lib.byteCells_encodeRune, ← Lib.byteCells_append, List.append_assoc] at h2
            clear h1 hit3 k2
            go_wp2
            go_roundw
            case rel => exact QRel.next hp hacc'.out hal (by rw [HRR.out]; exact HQ.out) (Or.inr h2) hit4 (hbw3.trans b2)
            case measure =>
              simp only [World.iterPos, hit4, HIT.out]
              omega
        · have hqr : quoteR r = Lib.encodeRune (r : Int) := quoteR_else hq hc
          have HQ := Lib.hid hqr
          have t1 : ((r : Int) == 34) = false := beq_eq_false_iff_ne.2 (by omega)
          have t2 : ((r : Int) == 92) = false := beq_eq_false_iff_ne.2 (by omega)
          clear hqr hq hc
          go_wp2_with fail
          refine (cC _).mono ?_
          rintro e w0 ⟨rfl, rfl⟩
          go_wp2_with fail
          refine (bWriteRune w.heap.size w.heap.size _ _ (by omega) (by omega) _ hI2 (by rw [Lib.byteCells_length]; omega) hsz2).mono ?_
          rintro e w2 ⟨rfl, h2, b2, k2⟩
          have hit4 := k2.iter hit2 (by omega)
          rw [← Lib.byteCells_encodeRune, ← Lib.byteCells_append] at h2
          clear hI2 hit2 k2
          go_wp2
          go_roundw
          case rel => exact QRel.next hp hacc'.out hal (by rw [HRR.out]; exact HQ.out) (Or.inr h2) hit4 (hbw2.trans b2)
          case measure =>
            simp only [World.iterPos, hit4, HIT.out]
            omega
    · have hnx : ∀ ty, (Instr.next (.pointer (some ⟨wG.heap.size, 0, none⟩)) true ty).run Tryz.prog wr = _ := fun ty => Lib.run_next_end_at wr wG.heap.size s pos ty hit hp
      rw [drop_nil s pos hp, quoteM_nil, List.nil_append] at hacc
      have hacc' := Lib.hid hacc
      clear hacc
      go_wp2_with fail
      refine (bWriteByte w.heap.size w.heap.size _ 34 _ hI (by rw [Lib.byteCells_length]; omega) (by omega)).mono ?_
      rintro e w1 ⟨rfl, h1, b1, -⟩
      rw [show (Value.int .u8 34) = Value.int .u8 (((34 : UInt8).toNat : Nat) : Int) from rfl, byteCells_snoc, hacc'.out] at h1
      have hbw1 := hbw.trans b1
      clear b1 hbw
      go_wp2_with fail
      refine (bString w.heap.size w.heap.size _ _ (Or.inr h1) hbw1.size).mono ?_
      rintro e w2 ⟨rfl, -, b2, -⟩
      go_wp2
      go_ret
      exact ⟨rfl, hbw1.trans b2⟩
end
end Go.Proofs.YtaihlfjbgljhlaaGreatDoor
