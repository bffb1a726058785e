/- Values compared; palaverlaw09.two, .truth. -/
import Derived.Test.YtepppianhafdjaaGreatDoorMEvTw
namespace Go.Proofs.YtepppianhafdjaaGreatDoor
open Go.RowKit

def sameV (K n : Int) (s : ByteArray) (L m : Int) (t : ByteArray) : Bool := K == L && (n == m && s == t)
theorem sameV_refl (K n : Int) (s : ByteArray) : sameV K n s K n s = true := by simp [sameV, beqB_refl]
theorem sameV_iff (K n : Int) (s : ByteArray) (L m : Int) (t : ByteArray) : sameV K n s L m t = true ↔ K = L ∧ n = m ∧ s = t := by simp [sameV, beqB]
set_option maxRecDepth 100000 in
theorem eqlIn_val (K n : Int) (s : ByteArray) (L m : Int) (t : ByteArray) (w : World) : (Op.equalIn 10000 23 (V3 K n s) (V3 L m t)).run Tryz.prog w = .ok (sameV K n s L m t) w := by
  unfold sameV
  rw [run_equalIn_agg w 9999 23 _ _ (by kernel_rfl) (by kernel_rfl)]
  simp [Program.fieldsOf, Tryz.underlying23, Op.eqFields, part, run_equalIn_int _ _ _ _ _ _ _ Tryz.underlying3, run_equalIn_int _ _ _ _ _ _ _ Tryz.underlying2, run_equalIn_string _ _ _ _ _ Tryz.underlying9, Tryz.isAgg3, Tryz.isAgg2, Tryz.isAgg9, beq_toListBytes]
  by_cases h1 : K = L <;> by_cases h2 : n = m <;> by_cases h3 : s.toList = t.toList <;> simp [h1, h2, h3]
theorem eql_val (K n : Int) (s : ByteArray) (L m : Int) (t : ByteArray) (w : World) : (binOp .eql 23 (V3 K n s) (V3 L m t)).run Tryz.prog w = .ok (.bool (sameV K n s L m t)) w := by
  rw [run_eql_struct, eqlIn_val]; rfl
theorem neq_val (K n : Int) (s : ByteArray) (L m : Int) (t : ByteArray) (w : World) : (binOp .neq 23 (V3 K n s) (V3 L m t)).run Tryz.prog w = .ok (.bool (!(sameV K n s L m t))) w := by
  rw [run_neq_struct, eqlIn_val]; rfl

theorem va_eql (x y : Va) (w : World) : (binOp .eql 23 (vaV x) (vaV y)).run Tryz.prog w = .ok (.bool (sameV x.k x.n ⟨x.s.toArray⟩ y.k y.n ⟨y.s.toArray⟩)) w := eql_val _ _ _ _ _ _ w
/-- A result's three cells. -/
structure Res (w : World) (g : Nat) : Prop where
  z0 : ∃ v, w.cell? ⟨g, 0, none⟩ = some v
  z1 : ∃ v, w.cell? ⟨g, 1, none⟩ = some v
  z2 : ∃ v, w.cell? ⟨g, 2, none⟩ = some v
  nb : NB w g
theorem Res.new (w : World) : Res (w.alloc (.cells #[.int .i64 0, .int .i64 0, .string ⟨#[]⟩] 23)) w.heap.size :=
  ⟨⟨_, by rw [cells_of_alloc]; rfl⟩, ⟨_, by rw [cells_of_alloc]; rfl⟩, ⟨_, by rw [cells_of_alloc]; rfl⟩, NB.new w _ _⟩
theorem Res.later {w w' : World} {g : Nat} (h : Res w g) (hb : Below w.heap.size w w') : Res w' g := by
  obtain ⟨⟨v0, h0⟩, ⟨v1, h1⟩, ⟨v2, h2⟩, hn⟩ := h
  have hg := World.block_lt_of_cell? w _ h0
  exact ⟨⟨v0, (hb.cell (p := ⟨g, 0, none⟩) hg).trans h0⟩, ⟨v1, (hb.cell (p := ⟨g, 1, none⟩) hg).trans h1⟩, ⟨v2, (hb.cell (p := ⟨g, 2, none⟩) hg).trans h2⟩, hn.same (hb.block _ hg)⟩
abbrev put3 (w : World) (g : Nat) (K n : Int) (s : ByteArray) : World := ((w.setCell ⟨g, 0, none⟩ (.int .i64 K)).setCell ⟨g, 1, none⟩ (.int .i64 n)).setCell ⟨g, 2, none⟩ (.string s)
theorem put3_below {B g : Nat} {w0 w : World} (h : Below B w0 w) (hg : B ≤ g) (K n : Int) (s : ByteArray) : Below B w0 (put3 w g K n s) := ((h.setCell (p := ⟨g, 0, none⟩) hg _).setCell (p := ⟨g, 1, none⟩) hg _).setCell (p := ⟨g, 2, none⟩) hg _
theorem ltruth_any (b : Bool) (w : World) : Calls Tryz.prog 11 #[.bool b] w fun e w' => e = .returned (vaV (truV b)) ∧ Below w.heap.size w w' := by
  cases b with
  | true =>
    have HB := Lib.hid (below_alloc w (.cells #[.int .i64 2, .int .i64 1, .string ⟨#[]⟩] 23))
    go_enter Tryz.func11, Tryz.ntmps11
    go_wp2_with fail
    exact bodyPost_ret (v := V3 2 1 ⟨#[]⟩) (by simp [results, Tryz.results11, go_sem, *]) rfl ⟨rfl, HB.out⟩
  | false =>
    have HB := Lib.hid (below_alloc w (.cells #[.int .i64 2, .int .i64 0, .string ⟨#[]⟩] 23))
    go_enter Tryz.func11, Tryz.ntmps11
    go_wp2_with fail
    exact bodyPost_ret (v := V3 2 0 ⟨#[]⟩) (by simp [results, Tryz.results11, go_sem, *]) rfl ⟨rfl, HB.out⟩
set_option maxHeartbeats 2000000 in
theorem two_any (op a b : Int) (w : World) (h7 : 7 ≤ op) (h17 : op ≤ 17) (a0 : -9223372036854775808 ≤ a) (a1 : a ≤ 9223372036854775807) (b0 : -9223372036854775808 ≤ b) (b1 : b ≤ 9223372036854775807) (hE : EnvP w) :
    Calls Tryz.prog 9 #[.int .i64 op, .int .i64 a, .int .i64 b] w fun e w' => e = .returned (vaV (opV op [⟨1, a, []⟩, ⟨1, b, []⟩])) ∧ Below w.heap.size w w' := by
  have hb := below_alloc w (.cells #[.int .i64 0, .int .i64 0, .string ⟨#[]⟩] 23)
  have hs := alloc_size w (.cells #[.int .i64 0, .int .i64 0, .string ⟨#[]⟩] 23)
  have hr := Res.new w
  obtain ⟨w1, hw1⟩ : ∃ w1, w.alloc (.cells #[.int .i64 0, .int .i64 0, .string ⟨#[]⟩] 23) = w1 := ⟨_, rfl⟩
  rw [hw1] at hb hs hr
  have c := ab_eval w1 op ⟨1, a, []⟩ ⟨1, b, []⟩ h7 h17 (ok_int a0 a1) (ok_int b0 b1) (by simp) (by simp) (hE.later hb)
  rw [hs] at c
  have HR := Lib.hid hr
  have HB := Lib.hid (below_to hb (ab_below w1 ⟨1, a, []⟩ ⟨1, b, []⟩))
  have HA := Lib.hid (ab_below w1 ⟨1, a, []⟩ ⟨1, b, []⟩)
  clear hr hb
  generalize opV op [⟨1, a, []⟩, ⟨1, b, []⟩] = y at *
  go_enter Tryz.func9, Tryz.ntmps9
  go_wp2_with fail
  (with_reducible refine c.mono ?_)
  rintro e w5 ⟨rfl, b5⟩
  obtain ⟨⟨v0, z0⟩, ⟨v1, z1⟩, ⟨v2, z2⟩, n2⟩ := (HR.out.later HA.out).later b5
  have f0 := (n2.weak 0).2
  have f1 := (n2.weak 1).2
  have f2 := (n2.weak 2).2
  have HB8 := Lib.hid (put3_below (below_to HB.out b5) (Nat.le_refl _) y.k y.n ⟨y.s.toArray⟩)
  obtain ⟨K, n, s⟩ := y
  unfold vaV
  dsimp only at HB8 ⊢
  clear c b5 n2 hs
  go_wp2_with fail
  exact bodyPost_ret (v := V3 K n ⟨s.toArray⟩) (by simp [results, Tryz.results9, go_sem, *]) rfl ⟨rfl, HB8.out⟩
end Go.Proofs.YtepppianhafdjaaGreatDoor
