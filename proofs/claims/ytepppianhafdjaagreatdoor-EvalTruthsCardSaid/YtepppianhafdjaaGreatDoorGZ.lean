/- Several texts in one: EvTr, EvTrM. -/
import Derived.Test.YtepppianhafdjaaGreatDoorMEvLw
namespace Go.Proofs.YtepppianhafdjaaGreatDoor
/- EvalTruths' two: what two truths come to. -/
section
open Go.RowKit

def pqE (op : Int) : Ex := .mk op 0 [] [.mk 4 0 [112] [], .mk 4 0 [113] []]
def ntE : Ex := .mk 6 0 [] [.mk 4 0 [112] []]
def pqN : List ByteArray := [⟨#[112]⟩, ⟨#[113]⟩]
theorem pq_chk : ∀ op : Fin 2, chkB (pqE ((16 + op.val : Nat) : Int)) = true := fun op => by
  rw [← chkC_eq]
  exact (show ∀ op : Fin 2, chkC (pqE ((16 + op.val : Nat) : Int)) = true by decide +kernel) op
theorem nt_chk : chkB ntE = true := by
  rw [← chkC_eq]
  decide +kernel
theorem pq_name (x y : Va) (hx : x.ok) (hy : y.ok) : nameV pqN (abV x y) ⟨#[112]⟩ = x ∧ nameV pqN (abV x y) ⟨#[113]⟩ = y := by
  unfold pqN abV
  refine ⟨?_, ?_⟩
  · rw [nameV, if_pos rfl, if_pos hx.1]
  · rw [nameV, if_neg (by decide), nameV, if_pos rfl, if_pos hy.1]
theorem pq_ev (op : Int) (x y : Va) (h7 : 16 ≤ op) (h17 : op ≤ 17) (hx : x.ok) (hy : y.ok) : evA pqN (abV x y) (pqE op) = opV op [x, y] := by
  have hc := pq_chk ⟨(op - 16).toNat, by omega⟩
  rw [show ((16 + (op - 16).toNat : Nat) : Int) = op by omega] at hc
  obtain ⟨e1, e2⟩ := pq_name x y hx hy
  unfold evA
  rw [hc, if_pos rfl]
  unfold pqE
  rw [evalE_op (by omega) (by omega), evalL, evalL, evalL]
  have n1 : evalE pqN (abV x y) (.mk 4 0 [112] []) = x := by
    rw [evalE]
    exact e1
  have n2 : evalE pqN (abV x y) (.mk 4 0 [113] []) = y := by
    rw [evalE]
    exact e2
  rw [n1, n2]
theorem nt_ev (x y : Va) (hx : x.ok) (hy : y.ok) : evA pqN (abV x y) ntE = opV 6 [x] := by
  obtain ⟨e1, -⟩ := pq_name x y hx hy
  unfold evA
  rw [nt_chk, if_pos rfl]
  unfold ntE
  rw [evalE_op (by decide) (by decide), evalL, evalL]
  have n1 : evalE pqN (abV x y) (.mk 4 0 [112] []) = x := by
    rw [evalE]
    exact e1
  rw [n1]
abbrev pqCells : Array Value := #[.int .i64 4, .int .i64 0, .string ⟨#[112]⟩, .slice none 0 0, .int .i64 4, .int .i64 0, .string ⟨#[113]⟩, .slice none 0 0]
abbrev ntCells : Array Value := #[.int .i64 4, .int .i64 0, .string ⟨#[112]⟩, .slice none 0 0]
theorem pq_in (w : World) (op : Int) (h7 : 7 ≤ op) (h17 : op ≤ 17) : ExIn (w.alloc (.cells pqCells 30)) (fun _ => True) (pqE op) (EV op 0 ⟨#[]⟩ (.slice (some ⟨w.heap.size, 0, none⟩) 2 2)) := by
  have hc := cells_of_alloc w pqCells 30
  have hnb := NB.new w pqCells 30
  have hz := alloc_size w (.cells pqCells 30)
  refine ex_two (op := op) ⟨by omega, by omega⟩ trivial (by omega) ?_
  have k1 : ∀ S, ExIn (w.alloc (.cells pqCells 30)) S (.mk 4 0 [112] []) (EV 4 0 ⟨#[112]⟩ (.slice none 0 0)) := fun S => ExIn.leaf (op := 4) (n := 0) (s := [112]) ⟨⟨by decide, by decide⟩, ⟨by decide, by decide⟩, by decide⟩
  have k2 : ∀ S, ExIn (w.alloc (.cells pqCells 30)) S (.mk 4 0 [113] []) (EV 4 0 ⟨#[113]⟩ (.slice none 0 0)) := fun S => ExIn.leaf (op := 4) (n := 0) (s := [113]) ⟨⟨by decide, by decide⟩, ⟨by decide, by decide⟩, by decide⟩
  exact RowIn.one hnb (hc 0) (hc 1) (hc 2) (hc 3) (k1 _) (RowIn.one hnb (hc 4) (hc 5) (hc 6) (hc 7) (k2 _) .none)
theorem nt_in (w : World) : ExIn (w.alloc (.cells ntCells 30)) (fun _ => True) ntE (EV 6 0 ⟨#[]⟩ (.slice (some ⟨w.heap.size, 0, none⟩) 1 1)) := by
  have hc := cells_of_alloc w ntCells 30
  have hnb := NB.new w ntCells 30
  have hz := alloc_size w (.cells ntCells 30)
  refine ex_one (op := 6) ⟨by decide, by decide⟩ trivial (by omega) ?_
  have k1 : ∀ S, ExIn (w.alloc (.cells ntCells 30)) S (.mk 4 0 [112] []) (EV 4 0 ⟨#[112]⟩ (.slice none 0 0)) := fun S => ExIn.leaf (op := 4) (n := 0) (s := [112]) ⟨⟨by decide, by decide⟩, ⟨by decide, by decide⟩, by decide⟩
  exact RowIn.one hnb (hc 0) (hc 1) (hc 2) (hc 3) (k1 _) .none
theorem pq_names (w : World) : Ts (w.alloc (.cells #[.string ⟨#[112]⟩, .string ⟨#[113]⟩] 9)) (some ⟨w.heap.size, 0, none⟩) pqN := fun _ => ⟨w.heap.size, 0, rfl, fun j hj => by
  rw [cells_of_alloc]
  have hl : pqN.length = 2 := rfl
  match j, hj with
  | 0, _ => rfl
  | 1, _ => rfl⟩
theorem knows_pq {w : World} {gn g : Nat} {x y : Va} (hn : Ts w (some ⟨gn, 0, none⟩) pqN) (hv : Vs w (some ⟨g, 0, none⟩) (abV x y)) (hT : Tabs w) (hx : x.ok) (hy : y.ok) (lx : x.s.length ≤ 400) (ly : y.s.length ≤ 400) : Knows w pqN (abV x y) (some ⟨gn, 0, none⟩) (some ⟨g, 0, none⟩) :=
  ⟨hn, hv, hT, by decide, by unfold abV; simp, fun v hv => by
      unfold abV at hv
      rcases List.mem_cons.1 hv with rfl | hv
      · omega
      · rw [List.mem_singleton.1 hv]; omega, fun v hv => by
      unfold abV at hv
      rcases List.mem_cons.1 hv with rfl | hv
      · exact hx.2
      · rw [List.mem_singleton.1 hv]; exact hy.2⟩
/-- The memory that two works on: the names, the two values. -/
structure PqS (w : World) (gN gn gA gB : Nat) (x y : Va) : Prop where
  cN : w.cell? ⟨gN, 0, none⟩ = some (.slice (some ⟨gn, 0, none⟩) 2 2)
  names : Ts w (some ⟨gn, 0, none⟩) pqN
  a : At3 w gA x.k x.n ⟨x.s.toArray⟩
  b : At3 w gB y.k y.n ⟨y.s.toArray⟩
theorem PqS.later {w w' : World} {gN gn gA gB : Nat} {x y : Va} (h : PqS w gN gn gA gB x y) (hb : Below w.heap.size w w') : PqS w' gN gn gA gB x y :=
  ⟨(hb.cell (p := ⟨gN, 0, none⟩) (World.block_lt_of_cell? w _ h.cN)).trans h.cN, h.names.below hb, h.a.later hb, h.b.later hb⟩
set_option maxHeartbeats 4000000 in
theorem pq_any (op K z : Int) (gN gn gA gB : Nat) (x y : Va) (w : World) (h7 : 16 ≤ op) (h17 : op ≤ 17) (hx : x.ok) (hy : y.ok) (hE : EnvP w) (hS : PqS w gN gn gA gB x y) (hz : opV op [x, y] = ⟨K, z, []⟩) :
    Calls Tryz.prog 20 #[.int .i64 op, .pointer (some ⟨gN, 0, none⟩), .pointer (some ⟨gA, 0, none⟩), .pointer (some ⟨gB, 0, none⟩)] w fun e w' => e = .returned (V3 K z ⟨#[]⟩) ∧ Below w.heap.size w w' := by
  have hb1 := below_alloc w (.cells #[.int .i64 0, .int .i64 0, .string ⟨#[]⟩] 23)
  have hs := alloc_size w (.cells #[.int .i64 0, .int .i64 0, .string ⟨#[]⟩] 23)
  have hr := Res.new w
  have hS1 := hS.later hb1
  have hE1 := hE.later hb1
  obtain ⟨w1, hw1⟩ : ∃ w1, w.alloc (.cells #[.int .i64 0, .int .i64 0, .string ⟨#[]⟩] 23) = w1 := ⟨_, rfl⟩
  rw [hw1] at hb1 hs hr hS1 hE1
  have h1 := alloc_size w1 (.cells pqCells 30)
  have hb : Below w1.heap.size w1 ((w1.alloc (.cells pqCells 30)).alloc (.cells (vCells x y) 23)) := ((Below.refl _ w1).alloc (Nat.le_refl _) _).alloc (by simp) _
  have hi := (pq_in w1 op (by omega) h17).later (below_alloc _ (.cells (vCells x y) 23))
  have hv := ab_vals (w1.alloc (.cells pqCells 30)) x y
  rw [h1] at hv
  have lx := hx.size
  have ly := hy.size
  have c := eval_all pqN (abV x y) (some ⟨gn, 0, none⟩) (some ⟨w1.heap.size + 1, 0, none⟩) 2 2 (pqE op) _ _ _ (hE1.later hb) hi (knows_pq (hS1.names.below hb) hv (hE1.later hb).env.tabs hx hy (by omega) (by omega))
  rw [pq_ev op x y h7 h17 hx hy, hz] at c
  have c' : Calls Tryz.prog 15 #[EV op 0 ⟨#[]⟩ (.slice (some ⟨w1.heap.size, 0, none⟩) 2 2), .slice (some ⟨gn, 0, none⟩) 2 2, .slice (some ⟨w1.heap.size + 1, 0, none⟩) 2 2] ((w1.alloc (.cells pqCells 30)).alloc (.cells (vCells x y) 23)) fun en w' => en = .returned (V3 K z ⟨#[]⟩) ∧ Below ((w1.alloc (.cells pqCells 30)).alloc (.cells (vCells x y) 23)).heap.size ((w1.alloc (.cells pqCells 30)).alloc (.cells (vCells x y) 23)) w' := c
  rw [hs] at c'
  obtain ⟨n0, -, ⟨ga, a0, a1, a2⟩, ⟨gb, b0, b1, b2⟩⟩ := hS1
  have gn0 : gN < w1.heap.size := World.block_lt_of_cell? w1 _ n0
  rw [hs] at gn0 ga gb
  have HA := Lib.hid hb
  have HB := Lib.hid (below_to hb1 hb)
  have HR := Lib.hid hr
  obtain ⟨M, n, s⟩ := x
  obtain ⟨L, m, t⟩ := y
  dsimp only at a0 a1 a2 b0 b1 b2
  clear c hi hv h1 hE hz hx hy lx ly hb hr hb1 hE1 hS
  dsimp only [vCells, pqCells] at c' HB HA
  go_enter Tryz.func20, Tryz.ntmps20
  go_wp2_with fail
  (with_reducible refine c'.mono ?_)
  rintro e w5 ⟨rfl, b5⟩
  obtain ⟨⟨v0, z0⟩, ⟨v1, z1⟩, ⟨v2, z2⟩, n2⟩ := (HR.out.later HA.out).later b5
  have f0 := (n2.weak 0).2
  have f1 := (n2.weak 1).2
  have f2 := (n2.weak 2).2
  have HB8 := Lib.hid (put3_below (below_to HB.out b5) (Nat.le_refl _) K z ⟨#[]⟩)
  clear c' b5 a0 a1 a2 b0 b1 b2 n0 n2 hs
  go_wp2_with fail
  exact bodyPost_ret (v := V3 K z ⟨#[]⟩) (by simp [results, Tryz.results20, go_sem, *]) rfl ⟨rfl, HB8.out⟩
end
/- EvalTruths: the memory that it makes; a value in a block of its own. -/
section
open Go.RowKit
theorem tmod3 (p : Int) : ∃ r : Int, p.tmod 3 = r ∧ -2 ≤ r ∧ r ≤ 2 ∧ ((r + 3).tmod 3 = 0 ∨ (r + 3).tmod 3 = 1 ∨ (r + 3).tmod 3 = 2) := by
  have h : ∀ q : Int, (q.tmod 3).natAbs < 3 := fun q => by rw [Int.natAbs_tmod]; exact Nat.mod_lt _ (by decide)
  have h1 := h p
  refine ⟨p.tmod 3, rfl, by omega, by omega, ?_⟩
  generalize p.tmod 3 = r at *
  have hr : r = -2 ∨ r = -1 ∨ r = 0 ∨ r = 1 ∨ r = 2 := by omega
  rcases hr with rfl | rfl | rfl | rfl | rfl <;> decide
/-- A value's block that is the call's own. -/
structure Bx (w : World) (g : Nat) (K n : Int) : Prop where
  at3 : At3 w g K n ⟨#[]⟩
  nb : NB w g
theorem Bx.new (w : World) (K n : Int) : Bx (w.alloc (.cells #[.int .i64 K, .int .i64 n, .string ⟨#[]⟩] 23)) w.heap.size K n := ⟨At3.new w K n ⟨#[]⟩, NB.new w _ _⟩
theorem Bx.later {w w' : World} {g : Nat} {K n : Int} (h : Bx w g K n) (hb : Below w.heap.size w w') : Bx w' g K n := ⟨h.at3.later hb, h.nb.same (hb.block _ h.at3.lt)⟩
theorem Bx.drew {w : World} {g : Nat} {K n : Int} (h : Bx w g K n) : Bx w.drew g K n := ⟨⟨h.at3.lt, h.at3.c0, h.at3.c1, h.at3.c2⟩, h.nb.drew⟩
theorem Bx.far {w : World} {g g' : Nat} {K n : Int} (h : Bx w g K n) (hne : g' ≠ g) (K' n' : Int) : Bx (put3 w g' K' n' ⟨#[]⟩) g K n :=
  ⟨⟨by rw [set_size, set_size, set_size]; exact h.at3.lt,
    by rw [World.cell?_setCell_far _ _ _ _ hne, World.cell?_setCell_far _ _ _ _ hne, World.cell?_setCell_far _ _ _ _ hne]; exact h.at3.c0,
    by rw [World.cell?_setCell_far _ _ _ _ hne, World.cell?_setCell_far _ _ _ _ hne, World.cell?_setCell_far _ _ _ _ hne]; exact h.at3.c1,
    by rw [World.cell?_setCell_far _ _ _ _ hne, World.cell?_setCell_far _ _ _ _ hne, World.cell?_setCell_far _ _ _ _ hne]; exact h.at3.c2⟩, ((h.nb.set _ _ _).set _ _ _).set _ _ _⟩
theorem Bx.put {w : World} {g : Nat} {K n : Int} (h : Bx w g K n) (K' n' : Int) : Bx (put3 w g K' n' ⟨#[]⟩) g K' n' := by
  obtain ⟨⟨hl, c0, c1, c2⟩, hn⟩ := h
  have f0 := (hn.weak 0).2
  have f1 := (hn.weak 1).2
  have f2 := (hn.weak 2).2
  refine ⟨⟨by rw [set_size, set_size, set_size]; exact hl, ?_, ?_, ?_⟩, ((hn.set _ _ _).set _ _ _).set _ _ _⟩
  all_goals go_simp
theorem tru_any (b : Bool) (z : Int) (h : z = if b then 1 else 0) (w : World) : Calls Tryz.prog 11 #[.bool b] w fun e w' => e = .returned (V3 2 z ⟨#[]⟩) ∧ Below w.heap.size w w' := by
  subst h
  exact ltruth_any b w
theorem tru_mem (w : World) (K n L m : Int) (w6 : World) (h : ((((((w.alloc (.cells #[.int .i64 2, .int .i64 0, .string ⟨#[]⟩, .int .i64 2, .int .i64 1, .string ⟨#[]⟩, .int .i64 0, .int .i64 0, .string ⟨#[]⟩] 23)).alloc (.cells #[.int .i64 K, .int .i64 n, .string ⟨#[]⟩] 23)).alloc (.cells #[.int .i64 L, .int .i64 m, .string ⟨#[]⟩] 23)).alloc (.cells #[.string ⟨#[112]⟩, .string ⟨#[113]⟩] 9)).alloc (.cells #[.slice (some ⟨w.heap.size + 1 + 1 + 1, 0, none⟩) 2 2] 31)).alloc (.cells #[.int .i64 4, .int .i64 3, .string ⟨#[]⟩] 23)) = w6) :
    w6.heap.size = w.heap.size + 1 + 1 + 1 + 1 + 1 + 1 ∧ Below w.heap.size w w6 ∧ PqS w6 (w.heap.size + 1 + 1 + 1 + 1) (w.heap.size + 1 + 1 + 1) (w.heap.size + 1) (w.heap.size + 1 + 1) ⟨K, n, []⟩ ⟨L, m, []⟩ ∧ Bx w6 (w.heap.size + 1 + 1 + 1 + 1 + 1) 4 3 := by
  subst h
  have b1 := below_alloc w (.cells #[.int .i64 2, .int .i64 0, .string ⟨#[]⟩, .int .i64 2, .int .i64 1, .string ⟨#[]⟩, .int .i64 0, .int .i64 0, .string ⟨#[]⟩] 23)
  have s1 := alloc_size w (.cells #[.int .i64 2, .int .i64 0, .string ⟨#[]⟩, .int .i64 2, .int .i64 1, .string ⟨#[]⟩, .int .i64 0, .int .i64 0, .string ⟨#[]⟩] 23)
  generalize w.alloc (.cells #[.int .i64 2, .int .i64 0, .string ⟨#[]⟩, .int .i64 2, .int .i64 1, .string ⟨#[]⟩, .int .i64 0, .int .i64 0, .string ⟨#[]⟩] 23) = v1 at *
  have b2 := below_alloc v1 (.cells #[.int .i64 K, .int .i64 n, .string ⟨#[]⟩] 23)
  have s2 := alloc_size v1 (.cells #[.int .i64 K, .int .i64 n, .string ⟨#[]⟩] 23)
  have t2 := At3.new v1 K n ⟨#[]⟩
  generalize v1.alloc (.cells #[.int .i64 K, .int .i64 n, .string ⟨#[]⟩] 23) = v2 at *
  have b3 := below_alloc v2 (.cells #[.int .i64 L, .int .i64 m, .string ⟨#[]⟩] 23)
  have s3 := alloc_size v2 (.cells #[.int .i64 L, .int .i64 m, .string ⟨#[]⟩] 23)
  have t3 := At3.new v2 L m ⟨#[]⟩
  generalize v2.alloc (.cells #[.int .i64 L, .int .i64 m, .string ⟨#[]⟩] 23) = v3 at *
  have b4 := below_alloc v3 (.cells #[.string ⟨#[112]⟩, .string ⟨#[113]⟩] 9)
  have s4 := alloc_size v3 (.cells #[.string ⟨#[112]⟩, .string ⟨#[113]⟩] 9)
  have t4 := pq_names v3
  generalize v3.alloc (.cells #[.string ⟨#[112]⟩, .string ⟨#[113]⟩] 9) = v4 at *
  have b5 := below_alloc v4 (.cells #[.slice (some ⟨w.heap.size + 1 + 1 + 1, 0, none⟩) 2 2] 31)
  have s5 := alloc_size v4 (.cells #[.slice (some ⟨w.heap.size + 1 + 1 + 1, 0, none⟩) 2 2] 31)
  have t5 : (v4.alloc (.cells #[.slice (some ⟨w.heap.size + 1 + 1 + 1, 0, none⟩) 2 2] 31)).cell? ⟨v4.heap.size, 0, none⟩ = some (.slice (some ⟨w.heap.size + 1 + 1 + 1, 0, none⟩) 2 2) := by rw [cells_of_alloc]; rfl
  generalize v4.alloc (.cells #[.slice (some ⟨w.heap.size + 1 + 1 + 1, 0, none⟩) 2 2] 31) = v5 at *
  have b6 := below_alloc v5 (.cells #[.int .i64 4, .int .i64 3, .string ⟨#[]⟩] 23)
  have s6 := alloc_size v5 (.cells #[.int .i64 4, .int .i64 3, .string ⟨#[]⟩] 23)
  have t6 := Bx.new v5 4 3
  generalize v5.alloc (.cells #[.int .i64 4, .int .i64 3, .string ⟨#[]⟩] 23) = v6 at *
  have e1 : v1.heap.size = w.heap.size + 1 := s1
  have e2 : v2.heap.size = w.heap.size + 1 + 1 := by rw [s2, e1]
  have e3 : v3.heap.size = w.heap.size + 1 + 1 + 1 := by rw [s3, e2]
  have e4 : v4.heap.size = w.heap.size + 1 + 1 + 1 + 1 := by rw [s4, e3]
  have e5 : v5.heap.size = w.heap.size + 1 + 1 + 1 + 1 + 1 := by rw [s5, e4]
  rw [e1] at t2
  rw [e2] at t3
  rw [e3] at t4
  rw [e4] at t5
  rw [e5] at t6
  refine ⟨by rw [s6, e5], below_to (below_to (below_to (below_to (below_to b1 b2) b3) b4) b5) b6, ⟨?_, (t4.below b5).below b6, (((t2.later b3).later b4).later b5).later b6, ((t3.later b4).later b5).later b6⟩, t6⟩
  exact (b6.cell (p := ⟨w.heap.size + 1 + 1 + 1 + 1, 0, none⟩) (World.block_lt_of_cell? v5 _ t5)).trans t5
theorem tru_two (w8 w9 : World) (h : ((w8.alloc (.cells #[.int .i64 4, .int .i64 3, .string ⟨#[]⟩] 23)).alloc (.cells #[.int .i64 4, .int .i64 3, .string ⟨#[]⟩] 23)).drew = w9) : Bx w9 w8.heap.size 4 3 ∧ Bx w9 (w8.heap.size + 1) 4 3 ∧ w9.heap.size = w8.heap.size + 1 + 1 ∧ Below w8.heap.size w8 w9 := by
  subst h
  have s1 := alloc_size w8 (.cells #[.int .i64 4, .int .i64 3, .string ⟨#[]⟩] 23)
  have t2 := Bx.new (w8.alloc (.cells #[.int .i64 4, .int .i64 3, .string ⟨#[]⟩] 23)) 4 3
  rw [s1] at t2
  exact ⟨((Bx.new w8 4 3).later (below_alloc _ _)).drew, t2.drew, by show ((w8.alloc (.cells #[.int .i64 4, .int .i64 3, .string ⟨#[]⟩] 23)).alloc (.cells #[.int .i64 4, .int .i64 3, .string ⟨#[]⟩] 23)).heap.size = _; rw [alloc_size, s1], (below_to (below_alloc w8 _) (below_alloc _ _)).drew⟩
theorem nt_call (x y : Va) (K z : Int) (gn : Nat) (w1 : World) (hx : x.ok) (hy : y.ok) (lx : x.s.length ≤ 400) (ly : y.s.length ≤ 400) (hE1 : EnvP w1) (hn : Ts w1 (some ⟨gn, 0, none⟩) pqN) (hz : opV 6 [x] = ⟨K, z, []⟩) :
    Calls Tryz.prog 15 #[EV 6 0 ⟨#[]⟩ (.slice (some ⟨w1.heap.size, 0, none⟩) 1 1), .slice (some ⟨gn, 0, none⟩) 2 2, .slice (some ⟨w1.heap.size + 1, 0, none⟩) 2 2] ((w1.alloc (.cells ntCells 30)).alloc (.cells (vCells x y) 23)) fun en w' => en = .returned (V3 K z ⟨#[]⟩) ∧ Below w1.heap.size w1 w' := by
  have h1 := alloc_size w1 (.cells ntCells 30)
  have hb : Below w1.heap.size w1 ((w1.alloc (.cells ntCells 30)).alloc (.cells (vCells x y) 23)) := ((Below.refl _ w1).alloc (Nat.le_refl _) _).alloc (by simp) _
  have hi := (nt_in w1).later (below_alloc _ (.cells (vCells x y) 23))
  have hv := ab_vals (w1.alloc (.cells ntCells 30)) x y
  rw [h1] at hv
  have c := eval_all pqN (abV x y) (some ⟨gn, 0, none⟩) (some ⟨w1.heap.size + 1, 0, none⟩) 2 2 ntE _ _ _ (hE1.later hb) hi (knows_pq (hn.below hb) hv (hE1.later hb).env.tabs hx hy lx ly)
  rw [nt_ev x y hx hy, hz] at c
  exact c.mono fun e w' h => ⟨h.1, below_to hb h.2⟩
end
end Go.Proofs.YtepppianhafdjaaGreatDoor
