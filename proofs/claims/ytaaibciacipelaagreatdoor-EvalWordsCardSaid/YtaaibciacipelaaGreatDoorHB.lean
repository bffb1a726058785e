/- Several texts in one: EvTw, EvEq, EvAwk, EvLw. -/
import Derived.Test.YtaaibciacipelaaGreatDoorHC
import Derived.Test.YtaaibciacipelaaGreatDoorGQ
import Derived.Test.YtaaibciacipelaaGreatDoorGR
namespace Go.Proofs.YtaaibciacipelaaGreatDoor
/- palaverlaw09.two: what two numbers come to by a sign. -/
section
open Go.RowKit

def abE (op : Int) : Ex := .mk op 0 [] [.mk 4 0 [97] [], .mk 4 0 [98] []]
def abN : List ByteArray := [⟨#[97]⟩, ⟨#[98]⟩]
def abV (x y : Va) : List Va := [x, y]
theorem ab_chk : ∀ op : Fin 11, chkB (abE ((7 + op.val : Nat) : Int)) = true := fun op => by
  rw [← chkC_eq]
  exact (show ∀ op : Fin 11, chkC (abE ((7 + op.val : Nat) : Int)) = true by decide +kernel) op
theorem ab_name (x y : Va) (hx : x.ok) (hy : y.ok) : nameV abN (abV x y) ⟨#[97]⟩ = x ∧ nameV abN (abV x y) ⟨#[98]⟩ = y := by
  unfold abN abV
  refine ⟨?_, ?_⟩
  · rw [nameV, if_pos rfl, if_pos hx.1]
  · rw [nameV, if_neg (by decide), nameV, if_pos rfl, if_pos hy.1]
theorem ab_ev (op : Int) (x y : Va) (h7 : 7 ≤ op) (h17 : op ≤ 17) (hx : x.ok) (hy : y.ok) : evA abN (abV x y) (abE op) = opV op [x, y] := by
  have hc := ab_chk ⟨(op - 7).toNat, by omega⟩
  rw [show ((7 + (op - 7).toNat : Nat) : Int) = op by omega] at hc
  obtain ⟨e1, e2⟩ := ab_name x y hx hy
  unfold evA
  rw [hc, if_pos rfl]
  unfold abE
  rw [evalE_op (by omega) (by omega), evalL, evalL, evalL]
  have n1 : evalE abN (abV x y) (.mk 4 0 [97] []) = x := by
    rw [evalE]
    exact e1
  have n2 : evalE abN (abV x y) (.mk 4 0 [98] []) = y := by
    rw [evalE]
    exact e2
  rw [n1, n2]
theorem ok_int {a : Int} (h0 : -9223372036854775808 ≤ a) (h1 : a ≤ 9223372036854775807) : (⟨1, a, []⟩ : Va).ok := ⟨rfl, h0, h1⟩
abbrev abCells : Array Value := #[.int .i64 4, .int .i64 0, .string ⟨#[97]⟩, .slice none 0 0, .int .i64 4, .int .i64 0, .string ⟨#[98]⟩, .slice none 0 0]
abbrev vCells (x y : Va) : Array Value := #[.int .i64 x.k, .int .i64 x.n, .string ⟨x.s.toArray⟩, .int .i64 y.k, .int .i64 y.n, .string ⟨y.s.toArray⟩]
theorem ab_in (w : World) (op : Int) (h7 : 7 ≤ op) (h17 : op ≤ 17) : ExIn (w.alloc (.cells abCells 24)) (fun _ => True) (abE op) (EV op 0 ⟨#[]⟩ (.slice (some ⟨w.heap.size, 0, none⟩) 2 2)) := by
  have hc := cells_of_alloc w abCells 24
  have hnb := NB.new w abCells 24
  have hz := alloc_size w (.cells abCells 24)
  refine ex_two (op := op) ⟨by omega, by omega⟩ trivial (by omega) ?_
  have k1 : ∀ S, ExIn (w.alloc (.cells abCells 24)) S (.mk 4 0 [97] []) (EV 4 0 ⟨#[97]⟩ (.slice none 0 0)) := fun S => ExIn.leaf (op := 4) (n := 0) (s := [97]) ⟨⟨by decide, by decide⟩, ⟨by decide, by decide⟩, by decide⟩
  have k2 : ∀ S, ExIn (w.alloc (.cells abCells 24)) S (.mk 4 0 [98] []) (EV 4 0 ⟨#[98]⟩ (.slice none 0 0)) := fun S => ExIn.leaf (op := 4) (n := 0) (s := [98]) ⟨⟨by decide, by decide⟩, ⟨by decide, by decide⟩, by decide⟩
  exact RowIn.one hnb (hc 0) (hc 1) (hc 2) (hc 3) (k1 _) (RowIn.one hnb (hc 4) (hc 5) (hc 6) (hc 7) (k2 _) .none)
theorem ab_names (w : World) : Ts (w.alloc (.cells #[.string ⟨#[97]⟩, .string ⟨#[98]⟩] 9)) (some ⟨w.heap.size, 0, none⟩) abN := fun _ => ⟨w.heap.size, 0, rfl, fun j hj => by
  rw [cells_of_alloc]
  have hl : abN.length = 2 := rfl
  match j, hj with
  | 0, _ => rfl
  | 1, _ => rfl⟩
theorem ab_vals (w : World) (x y : Va) : Vs (w.alloc (.cells (vCells x y) 41)) (some ⟨w.heap.size, 0, none⟩) (abV x y) := fun _ => ⟨w.heap.size, 0, rfl, fun k v hk => by
  have hc := cells_of_alloc w (vCells x y) 41
  match k, hk with
  | 0, hk => obtain rfl : x = v := by simpa [abV] using hk
             exact ⟨hc 0, hc 1, hc 2⟩
  | 1, hk => obtain rfl : y = v := by simpa [abV] using hk
             exact ⟨hc 3, hc 4, hc 5⟩
  | k + 2, hk => simp [abV] at hk⟩
/-- The memory that a call of Eval on a and b is handed. -/
abbrev abW (w : World) (x y : Va) : World := ((w.alloc (.cells abCells 24)).alloc (.cells #[.string ⟨#[97]⟩, .string ⟨#[98]⟩] 9)).alloc (.cells (vCells x y) 41)
theorem ab_below (w : World) (x y : Va) : Below w.heap.size w (abW w x y) := (((Below.refl _ w).alloc (Nat.le_refl _) _).alloc (by simp) _).alloc (by simp; omega) _
theorem ab_eval (w : World) (op : Int) (x y : Va) (h7 : 7 ≤ op) (h17 : op ≤ 17) (hx : x.ok) (hy : y.ok) (hlx : x.s.length ≤ 400) (hly : y.s.length ≤ 400) (hE : EnvP w) :
    Calls Tryz.prog 20 #[EV op 0 ⟨#[]⟩ (.slice (some ⟨w.heap.size, 0, none⟩) 2 2), .slice (some ⟨w.heap.size + 1, 0, none⟩) 2 2, .slice (some ⟨w.heap.size + 1 + 1, 0, none⟩) 2 2] (abW w x y) fun en w' => en = .returned (vaV (opV op [x, y])) ∧ Below (abW w x y).heap.size (abW w x y) w' := by
  have h1 := alloc_size w (.cells abCells 24)
  have h2 := alloc_size (w.alloc (.cells abCells 24)) (.cells #[.string ⟨#[97]⟩, .string ⟨#[98]⟩] 9)
  have hi := ((ab_in w op h7 h17).later (below_alloc _ (.cells #[.string ⟨#[97]⟩, .string ⟨#[98]⟩] 9))).later (below_alloc _ (.cells (vCells x y) 41))
  have hn := (ab_names (w.alloc (.cells abCells 24))).below (below_alloc _ (.cells (vCells x y) 41))
  have hv := ab_vals ((w.alloc (.cells abCells 24)).alloc (.cells #[.string ⟨#[97]⟩, .string ⟨#[98]⟩] 9)) x y
  rw [h1] at hn
  rw [h2, h1] at hv
  have hb := ab_below w x y
  have c := eval_all abN (abV x y) (some ⟨w.heap.size + 1, 0, none⟩) (some ⟨w.heap.size + 1 + 1, 0, none⟩) 2 2 (abE op) _ _ (abW w x y) (hE.later hb) hi
    ⟨hn, hv, (hE.later hb).env.tabs, by decide, by unfold abV; simp, fun v hv => by
      unfold abV at hv
      rcases List.mem_cons.1 hv with rfl | hv
      · omega
      · rw [List.mem_singleton.1 hv]; omega, fun v hv => by
      unfold abV at hv
      rcases List.mem_cons.1 hv with rfl | hv
      · exact hx.2
      · rw [List.mem_singleton.1 hv]; exact hy.2⟩
  rw [ab_ev op x y h7 h17 hx hy] at c
  exact c
end
/- Values compared; palaverlaw09.two, .truth. -/
section
open Go.RowKit

def sameV (K n : Int) (s : ByteArray) (L m : Int) (t : ByteArray) : Bool := K == L && (n == m && s == t)
theorem sameV_refl (K n : Int) (s : ByteArray) : sameV K n s K n s = true := by simp [sameV, beqB_refl]
theorem sameV_iff (K n : Int) (s : ByteArray) (L m : Int) (t : ByteArray) : sameV K n s L m t = true ↔ K = L ∧ n = m ∧ s = t := by simp [sameV, beqB]
set_option maxRecDepth 100000 in
theorem eqlIn_val (K n : Int) (s : ByteArray) (L m : Int) (t : ByteArray) (w : World) : (Op.equalIn 10000 41 (V3 K n s) (V3 L m t)).run Tryz.prog w = .ok (sameV K n s L m t) w := by
  unfold sameV
  rw [run_equalIn_agg w 9999 41 _ _ (by kernel_rfl) (by kernel_rfl)]
  simp [Program.fieldsOf, Tryz.underlying41, Op.eqFields, part, run_equalIn_int _ _ _ _ _ _ _ Tryz.underlying3, run_equalIn_int _ _ _ _ _ _ _ Tryz.underlying2, run_equalIn_string _ _ _ _ _ Tryz.underlying9, Tryz.isAgg3, Tryz.isAgg2, Tryz.isAgg9, beq_toListBytes]
  by_cases h1 : K = L <;> by_cases h2 : n = m <;> by_cases h3 : s.toList = t.toList <;> simp [h1, h2, h3]
theorem eql_val (K n : Int) (s : ByteArray) (L m : Int) (t : ByteArray) (w : World) : (binOp .eql 41 (V3 K n s) (V3 L m t)).run Tryz.prog w = .ok (.bool (sameV K n s L m t)) w := by
  rw [run_eql_struct, eqlIn_val]; rfl
theorem neq_val (K n : Int) (s : ByteArray) (L m : Int) (t : ByteArray) (w : World) : (binOp .neq 41 (V3 K n s) (V3 L m t)).run Tryz.prog w = .ok (.bool (!(sameV K n s L m t))) w := by
  rw [run_neq_struct, eqlIn_val]; rfl

theorem va_eql (x y : Va) (w : World) : (binOp .eql 41 (vaV x) (vaV y)).run Tryz.prog w = .ok (.bool (sameV x.k x.n ⟨x.s.toArray⟩ y.k y.n ⟨y.s.toArray⟩)) w := eql_val _ _ _ _ _ _ w
/-- A result's three cells. -/
structure Res (w : World) (g : Nat) : Prop where
  z0 : ∃ v, w.cell? ⟨g, 0, none⟩ = some v
  z1 : ∃ v, w.cell? ⟨g, 1, none⟩ = some v
  z2 : ∃ v, w.cell? ⟨g, 2, none⟩ = some v
  nb : NB w g
theorem Res.new (w : World) : Res (w.alloc (.cells #[.int .i64 0, .int .i64 0, .string ⟨#[]⟩] 41)) w.heap.size :=
  ⟨⟨_, by rw [cells_of_alloc]; rfl⟩, ⟨_, by rw [cells_of_alloc]; rfl⟩, ⟨_, by rw [cells_of_alloc]; rfl⟩, NB.new w _ _⟩
theorem Res.later {w w' : World} {g : Nat} (h : Res w g) (hb : Below w.heap.size w w') : Res w' g := by
  obtain ⟨⟨v0, h0⟩, ⟨v1, h1⟩, ⟨v2, h2⟩, hn⟩ := h
  have hg := World.block_lt_of_cell? w _ h0
  exact ⟨⟨v0, (hb.cell (p := ⟨g, 0, none⟩) hg).trans h0⟩, ⟨v1, (hb.cell (p := ⟨g, 1, none⟩) hg).trans h1⟩, ⟨v2, (hb.cell (p := ⟨g, 2, none⟩) hg).trans h2⟩, hn.same (hb.block _ hg)⟩
abbrev put3 (w : World) (g : Nat) (K n : Int) (s : ByteArray) : World := ((w.setCell ⟨g, 0, none⟩ (.int .i64 K)).setCell ⟨g, 1, none⟩ (.int .i64 n)).setCell ⟨g, 2, none⟩ (.string s)
theorem put3_below {B g : Nat} {w0 w : World} (h : Below B w0 w) (hg : B ≤ g) (K n : Int) (s : ByteArray) : Below B w0 (put3 w g K n s) := ((h.setCell (p := ⟨g, 0, none⟩) hg _).setCell (p := ⟨g, 1, none⟩) hg _).setCell (p := ⟨g, 2, none⟩) hg _
theorem ltruth_any (b : Bool) (w : World) : Calls Tryz.prog 23 #[.bool b] w fun e w' => e = .returned (vaV (truV b)) ∧ Below w.heap.size w w' := by
  cases b with
  | true =>
    have HB := Lib.hid (below_alloc w (.cells #[.int .i64 2, .int .i64 1, .string ⟨#[]⟩] 41))
    go_enter Tryz.func23, Tryz.ntmps23
    go_wp2_with fail
    exact bodyPost_ret (v := V3 2 1 ⟨#[]⟩) (by simp [results, Tryz.results23, go_sem, *]) rfl ⟨rfl, HB.out⟩
  | false =>
    have HB := Lib.hid (below_alloc w (.cells #[.int .i64 2, .int .i64 0, .string ⟨#[]⟩] 41))
    go_enter Tryz.func23, Tryz.ntmps23
    go_wp2_with fail
    exact bodyPost_ret (v := V3 2 0 ⟨#[]⟩) (by simp [results, Tryz.results23, go_sem, *]) rfl ⟨rfl, HB.out⟩
end
/- palaverlaw09.awake. -/
section
open Go.RowKit

def evE1 : Ex := .mk 10 0 [] [.mk 1 1 [] [], .mk 1 0 [] []]
def evE2 : Ex := .mk 17 0 [] [.mk 3 1 [] [], .mk 12 0 [] [evE1, .mk 1 1 [] []]]
def evE3 : Ex := .mk 7 0 [] [.mk 4 0 [120] [], .mk 1 1 [] []]
theorem ev_says1 : Says (⟨#[49, 32, 47, 32, 48]⟩ : ByteArray).data.toList (.ok evE1) := runC_says (f := 60) (by kernel_rfl)
theorem ev_says2 : Says (⟨#[116, 114, 117, 101, 32, 124, 32, 49, 47, 48, 32, 61, 32, 49]⟩ : ByteArray).data.toList (.ok evE2) := runC_says (f := 60) (by kernel_rfl)
theorem ev_says3 : Says (⟨#[120, 32, 43, 32, 49]⟩ : ByteArray).data.toList (.ok evE3) := runC_says (f := 60) (by kernel_rfl)
theorem ev_1 : evA [] [] evE1 = ⟨4, 2, []⟩ := by
  unfold evA
  rw [show chkB evE1 = true by rw [← chkC_eq]; decide +kernel]
  rfl
theorem ev_2 : evA [] [] evE2 = ⟨2, 1, []⟩ := by
  unfold evA
  rw [show chkB evE2 = true by rw [← chkC_eq]; decide +kernel]
  rfl
theorem ev_3 : evA [] [] evE3 = ⟨4, 3, []⟩ := by
  unfold evA
  rw [show chkB evE3 = true by rw [← chkC_eq]; decide +kernel]
  rfl
theorem knows_none (w : World) (hT : Tabs w) : Knows w [] [] none none := ⟨Els.nil _ _, fun h => absurd h (by simp), hT, by simp, by simp, by simp, by simp⟩
/-- Eval without a name. -/
theorem eval_none (e : Ex) (v : Value) (S : Nat → Prop) (w : World) (hE : EnvP w) (hv : ExIn w S e v) :
    Calls Tryz.prog 20 #[v, .slice none 0 0, .slice none 0 0] w fun en w' => en = .returned (vaV (evA [] [] e)) ∧ Below w.heap.size w w' :=
  eval_all [] [] none none 0 0 e v S w hE hv (knows_none w hE.env.tabs)
set_option maxHeartbeats 4000000 in
set_option maxRecDepth 100000 in
theorem evawake_any (w : World) (hE : EnvP w) : Calls Tryz.prog 17 #[] w fun e w' => e = .returned (.bool true) ∧ Below w.heap.size w w' := by
  have c1 := parse_vals ⟨#[49, 32, 47, 32, 48]⟩ _ w (by decide) hE ev_says1
  have c2 := fun w hE => parse_vals ⟨#[116, 114, 117, 101, 32, 124, 32, 49, 47, 48, 32, 61, 32, 49]⟩ _ w (by decide) hE ev_says2
  have c3 := fun w hE => parse_vals ⟨#[120, 32, 43, 32, 49]⟩ _ w (by decide) hE ev_says3
  have HE := Lib.hid hE
  clear hE
  go_enter Tryz.func17, Tryz.ntmps17
  go_wp2_with fail
  refine c1.mono ?_
  rintro e w1 ⟨b1, op, n, z, ao, l, c, p, f, rfl, rfl, rfl, hx⟩
  have hb2 := below_alloc w1 (.cells #[.int .i64 op, .int .i64 n, .string z, .slice ao l c] 24)
  have hF := four_new w1 (.int .i64 op) (.int .i64 n) (.string z) (.slice ao l c) 24
  have hx2 := hx.later hb2
  have hB2 := below_to b1 hb2
  obtain ⟨w2, hw2⟩ : ∃ w2, w1.alloc (.cells #[.int .i64 op, .int .i64 n, .string z, .slice ao l c] 24) = w2 := ⟨_, rfl⟩
  rw [hw2] at hF hx2 hB2 hb2
  have c2' := c2 _ (HE.out.later hB2)
  have HF2 := Lib.hid hF
  have HX2 := Lib.hid hx2
  have HB2 := Lib.hid hB2
  clear c1 c2 hx b1 hb2 hF hx2 hB2
  go_wp2_with fail
  refine c2'.mono ?_
  rintro e w3 ⟨b3, op2, n2, z2, ao2, l2, c2, p2, f2, rfl, rfl, rfl, hy⟩
  have hb4 := below_alloc w3 (.cells #[.int .i64 op2, .int .i64 n2, .string z2, .slice ao2 l2 c2] 24)
  have hG := four_new w3 (.int .i64 op2) (.int .i64 n2) (.string z2) (.slice ao2 l2 c2) 24
  have hx4 := (HX2.out.later b3).later hb4
  have hF4 := (HF2.out.later b3).later hb4
  have hy4 := hy.later hb4
  have hB4 := below_to (below_to HB2.out b3) hb4
  obtain ⟨w4, hw4⟩ : ∃ w4, w3.alloc (.cells #[.int .i64 op2, .int .i64 n2, .string z2, .slice ao2 l2 c2] 24) = w4 := ⟨_, rfl⟩
  rw [hw4] at hG hx4 hF4 hy4 hB4 hb4
  have c3' := c3 _ (HE.out.later hB4)
  have HG4 := Lib.hid hG
  have HX4 := Lib.hid hx4
  have HF4 := Lib.hid hF4
  have HY4 := Lib.hid hy4
  have HB4 := Lib.hid hB4
  clear c2' c3 HF2 HX2 HB2 hy b3 hb4 hG hx4 hF4 hy4 hB4 hw2
  go_wp2_with fail
  refine c3'.mono ?_
  rintro e w5 ⟨b5, op3, n3, z3, ao3, l3, c3, p3, f3, rfl, rfl, rfl, hz⟩
  have hb6 := below_alloc w5 (.cells #[.int .i64 op3, .int .i64 n3, .string z3, .slice ao3 l3 c3] 24)
  have hH := four_new w5 (.int .i64 op3) (.int .i64 n3) (.string z3) (.slice ao3 l3 c3) 24
  have hx6 := (HX4.out.later b5).later hb6
  have hF6 := (HF4.out.later b5).later hb6
  have hy6 := (HY4.out.later b5).later hb6
  have hG6 := (HG4.out.later b5).later hb6
  have hz6 := hz.later hb6
  have hB6 := below_to (below_to HB4.out b5) hb6
  obtain ⟨w6, hw6⟩ : ∃ w6, w5.alloc (.cells #[.int .i64 op3, .int .i64 n3, .string z3, .slice ao3 l3 c3] 24) = w6 := ⟨_, rfl⟩
  rw [hw6] at hH hx6 hF6 hy6 hG6 hz6 hB6 hb6
  have k1 := eval_none evE1 _ _ w6 (HE.out.later hB6) hx6
  rw [ev_1] at k1
  have k2 := fun w7 (hb : Below w6.heap.size w6 w7) => eval_none evE2 _ _ w7 (HE.out.later (below_to hB6 hb)) (hy6.later hb)
  rw [ev_2] at k2
  have k3 := fun w7 (hb : Below w6.heap.size w6 w7) => eval_none evE3 _ _ w7 (HE.out.later (below_to hB6 hb)) (hz6.later hb)
  rw [ev_3] at k3
  simp only [vaV] at k1 k2 k3
  have HG6 := Lib.hid hG6
  have HH6 := Lib.hid hH
  have HB6 := Lib.hid hB6
  obtain ⟨-, x0, x1, x2, x3, -⟩ := hF6
  clear c3' HF4 HX4 HG4 HY4 HB4 hz b5 hb6 hx6 hy6 hG6 hz6 hB6 hH hw4
  go_wp2_with fail
  refine k1.mono ?_
  rintro e w7 ⟨rfl, b7⟩
  have k2' := k2 w7 b7
  obtain ⟨-, y0, y1, y2, y3, -⟩ := HG6.out.later b7
  have HB7 := Lib.hid b7
  clear k1 k2 x0 x1 x2 x3 hw6 b7
  go_wp2_with fail
  refine k2'.mono ?_
  rintro e w8 ⟨rfl, b8⟩
  have b68 := below_to HB7.out b8
  have k3' := k3 w8 b68
  obtain ⟨-, q0, q1, q2, q3, -⟩ := HH6.out.later b68
  have HB8 := Lib.hid b68
  clear k2' k3 y0 y1 y2 y3 b8 b68
  go_wp2_with fail
  refine k3'.mono ?_
  rintro e w9 ⟨rfl, b9⟩
  have HB9 := Lib.hid (below_to HB6.out (below_to HB8.out b9))
  clear k3' q0 q1 q2 q3 b9
  go_wp2_with fail
  go_ret
  exact ⟨rfl, HB9.out⟩
end
/- What the laws of numbers share: a value in a block; two, as it is told by cases. -/
section
open Go.RowKit

/-- A value's cells. -/
structure At3 (w : World) (g : Nat) (K n : Int) (s : ByteArray) : Prop where
  lt : g < w.heap.size
  c0 : w.cell? ⟨g, 0, none⟩ = some (.int .i64 K)
  c1 : w.cell? ⟨g, 1, none⟩ = some (.int .i64 n)
  c2 : w.cell? ⟨g, 2, none⟩ = some (.string s)
theorem At3.new (w : World) (K n : Int) (s : ByteArray) : At3 (w.alloc (.cells #[.int .i64 K, .int .i64 n, .string s] 41)) w.heap.size K n s :=
  ⟨by rw [alloc_size]; omega, by rw [cells_of_alloc]; rfl, by rw [cells_of_alloc]; rfl, by rw [cells_of_alloc]; rfl⟩
theorem At3.later {w w' : World} {g : Nat} {K n : Int} {s : ByteArray} (h : At3 w g K n s) (hb : Below w.heap.size w w') : At3 w' g K n s :=
  ⟨Nat.lt_of_lt_of_le h.lt hb.size, (hb.cell (p := ⟨g, 0, none⟩) h.lt).trans h.c0, (hb.cell (p := ⟨g, 1, none⟩) h.lt).trans h.c1, (hb.cell (p := ⟨g, 2, none⟩) h.lt).trans h.c2⟩
theorem op_num {op a b : Int} (h7 : 7 ≤ op) (h11 : op ≤ 11) : opV op [⟨1, a, []⟩, ⟨1, b, []⟩] = numOp op a b := by
  unfold opV
  rw [if_neg (by omega), if_pos ⟨h7, h11⟩]
  rfl
theorem op_cmp {op a b : Int} (h12 : 12 ≤ op) (h15 : op ≤ 15) : opV op [⟨1, a, []⟩, ⟨1, b, []⟩] = truV (holdB op (decide (a < b)) (decide (a = b))) := by
  unfold opV
  rw [if_neg (by omega), if_neg (by omega), if_neg (by omega), if_neg (by omega), if_neg (by omega), if_pos ⟨h12, h15⟩]
  rfl
theorem nv_in {n : Int} (h0 : -9223372036854775808 ≤ n) (h1 : n ≤ 9223372036854775807) : numV n = ⟨1, n, []⟩ := if_pos ⟨h0, h1⟩
theorem nv_out {n : Int} (h : ¬ (-9223372036854775808 ≤ n ∧ n ≤ 9223372036854775807)) : numV n = ⟨4, 1, []⟩ := if_neg h
theorem op_add (a b : Int) : opV 7 [⟨1, a, []⟩, ⟨1, b, []⟩] = numV (a + b) := op_num (by decide) (by decide)
theorem op_sub (a b : Int) : opV 8 [⟨1, a, []⟩, ⟨1, b, []⟩] = numV (a - b) := op_num (by decide) (by decide)
theorem op_mul (a b : Int) : opV 9 [⟨1, a, []⟩, ⟨1, b, []⟩] = numV (a * b) := op_num (by decide) (by decide)
theorem op_div (a b : Int) : opV 10 [⟨1, a, []⟩, ⟨1, b, []⟩] = if b = 0 then ⟨4, 2, []⟩ else numV (Int.tdiv a b) := op_num (by decide) (by decide)
theorem op_mod (a b : Int) : opV 11 [⟨1, a, []⟩, ⟨1, b, []⟩] = if b = 0 then ⟨4, 2, []⟩ else numV (Int.tmod a b) := op_num (by decide) (by decide)
theorem same_yes (K n : Int) (s : ByteArray) (w : World) : (binOp .eql 41 (V3 K n s) (V3 K n s)).run Tryz.prog w = .ok (.bool true) w := by rw [eql_val, sameV_refl]
theorem same_no (K n : Int) (s : ByteArray) (w : World) : (binOp .neq 41 (V3 K n s) (V3 K n s)).run Tryz.prog w = .ok (.bool false) w := by rw [neq_val, sameV_refl]; rfl
end
end Go.Proofs.YtaaibciacipelaaGreatDoor
