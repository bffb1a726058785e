/- Contract of frame.steps and of the iterator that it hands back: what there is at each place, up to the first one where no frame begins. -/
import Derived.Test.YtpkbjiakjofcnaaFGet
import Derived.RangeFuncNested
import Derived.RangeFuncBound
import Derived.RangeFuncCalls
import Derived.RangeFuncLeaves
import Derived.Shelf.Abstract
import Derived.Shelf.RegionOpen
import Derived.OwnWalkIn
import Derived.TacticsInMore
import Derived.LoopNIn
import Derived.LoopIn
namespace Go.Proofs.Ytpkbjiakjofcnaa
open Go.RowKit Go.Shelf

attribute [local go_sem] Oper.semAt_some

/-- What a round of a loop over places keeps: the bytes, and every variable that holds bytes or a finding. -/
def KeepF (n₀ : Nat) (W W' : World) : Prop := Below n₀ W W' ∧ ∀ (k : Nat) (cs : Array Value) (t : TypeId), W.heap[k]? = some (Obj.cells cs t) → (t = 22 ∨ t = 56) → W'.heap[k]? = some (Obj.cells cs t)
theorem keepF_t {n₀ : Nat} {A B C : World} (h : KeepF n₀ A B) (k : KeepF n₀ B C) : KeepF n₀ A C :=
  ⟨h.1.trans k.1, fun i cs t hi ht => k.2 i cs t (h.2 i cs t hi ht) ht⟩
theorem keepF_b {n₀ : Nat} {w : World} (hn : n₀ ≤ w.heap.size) (W : World) (l : Nat) (o o' : Obj) (hl : w.heap.size ≤ l) (h : W.heap[l]? = some o) (hc : o.isCells = false) (hw : o.isWalk = false) : KeepF n₀ W (W.putObj l o') := by
  refine ⟨belowK_b hn W l o o' hl h hc hw, fun k cs t hk _ => ?_⟩
  have hne : k ≠ l := by
    rintro rfl
    rw [h] at hk
    injection hk with hk
    subst hk
    simp [Obj.isCells] at hc
  have hg := grownBy_putObj' W l o'
  exact (hg.block k (Array.getElem?_eq_some_iff.1 hk).1 (fun e => by injection e with e; exact hne e)).trans hk

theorem grown_none {W W' : World} (h : Below W.heap.size W W') : W.grownBy W' none := ⟨h.os, h.tape, h.output, h.size, fun k hk _ => h.block k hk⟩
theorem abides_new {β : Type} {B : Nat} {J : β → World → Prop} (hJ : AbidesFrom B J) {s : β} {W W' : World} (hs : J s W) (h : Below W.heap.size W W') : J s W' :=
  hJ s W W' none hs (grown_none h) (fun r e => by cases e)

/-- The bytes L lie where the slice begins, below block N. -/
def BsU (N : Nat) (w : World) (A : Option Addr) (L : List UInt8) : Prop := 0 < L.length → ∃ b off, A = some ⟨b, off, none⟩ ∧ b < N ∧ ∀ j, j < L.length → w.cell? ⟨b, off + j, none⟩ = some (.int .u8 ((L.getD j 0).toNat : Int))
theorem BsU.bs {N : Nat} {w : World} {A : Option Addr} {L : List UInt8} (h : BsU N w A L) : Bs w A L := fun h0 => by
  obtain ⟨b, off, e, _, hc⟩ := h h0
  exact ⟨b, off, e, hc⟩
theorem BsU.of {N : Nat} {w : World} {A : Option Addr} {L : List UInt8} (h : Bs w A L) (hN : w.heap.size ≤ N) : BsU N w A L := fun h0 => by
  obtain ⟨b, off, e, hc⟩ := h h0
  have := Bs.lt h0 hc
  exact ⟨b, off, e, by omega, hc⟩
theorem BsU.below {N : Nat} {w w' : World} {A : Option Addr} {L : List UInt8} (h : BsU N w A L) (hb : Below N w w') : BsU N w' A L := fun h0 => by
  obtain ⟨b, off, e, hN, hc⟩ := h h0
  exact ⟨b, off, e, hN, fun j hj => (hb.cell (p := ⟨b, off + j, none⟩) hN).trans (hc j hj)⟩

/-- What the iterator has: the box of its bytes, and the bytes. -/
structure HasB (n₀ Bx : Nat) (A : Option Addr) (L : List UInt8) (ca : Nat) (W : World) : Prop where
  box : W.heap[Bx]? = some (.cells #[.slice A L.length ca] 22)
  bytes : BsU n₀ W A L
  size : n₀ ≤ W.heap.size
section
variable {n₀ Bx ca : Nat} {A : Option Addr} {L : List UInt8} {W W' : World}
theorem HasB.next (h : HasB n₀ Bx A L ca W) (hb : Below W.heap.size W W') : HasB n₀ Bx A L ca W' :=
  ⟨(hb.block _ (Array.getElem?_eq_some_iff.1 h.box).1).trans h.box, h.bytes.below (hb.mono h.size), Nat.le_trans h.size hb.size⟩
theorem HasB.kept (h : HasB n₀ Bx A L ca W) (hk : KeepF n₀ W W') : HasB n₀ Bx A L ca W' :=
  ⟨hk.2 _ _ _ h.box (.inl rfl), h.bytes.below hk.1, Nat.le_trans h.size hk.1.size⟩
end

abbrev encsF (A : Option Addr) (L : List UInt8) (ca : Nat) (bs : List (List UInt8)) (i : Nat) : Array Value := #[.int .i64 (pos bs i : Int), fvOf A L ca (pos bs i)]

theorem fv_parts {L R : List UInt8} {bs : List (List UInt8)} (h : Frs L bs R) (A : Option Addr) (ca i : Nat) (hi : i ≤ bs.length) :
    ∃ a n c d er, fvOf A L ca (pos bs i) = foundV a n c d er ∧ ((i < bs.length ∧ (er == 0) = true ∧ (er != 0) = false ∧ Hid (d = (pos bs (i + 1) : Int))) ∨ (i = bs.length ∧ (er == 0) = false ∧ (er != 0) = true)) := by
  by_cases hlt : i < bs.length
  · have hy := h.yes hlt
    refine ⟨_, _, _, gN L (pos bs i), 0, by unfold fvOf; rw [hy], .inl ⟨hlt, rfl, rfl, ?_⟩⟩
    unfold gN
    rw [hy]
    show _ = _
    rw [pos_succ hlt]
  · obtain rfl : i = bs.length := by omega
    have hy := h.no
    have he : gE L (pos bs bs.length) = 3 ∨ gE L (pos bs bs.length) = 4 := by unfold gE; rw [hy]; simp only; split <;> simp
    refine ⟨none, 0, 0, 0, gE L (pos bs bs.length), by unfold fvOf; rw [hy], .inr ⟨rfl, ?_, ?_⟩⟩
    · rcases he with he | he <;> rw [he] <;> rfl
    · rcases he with he | he <;> rw [he] <;> rfl

theorem box_cell {w : World} {g : Nat} {a : Value} {t : TypeId} (h : w.heap[g]? = some (.cells #[a] t)) : w.cell? ⟨g, 0, none⟩ = some a := by
  rw [cell_of_row w g 0 _ _ _ h]; rfl

set_option maxRecDepth 100000 in
set_option maxHeartbeats 2000000 in
theorem steps1_in (n : Nat) (hn : 1 ≤ n) (l Bx n₀ ca : Nat) (A : Option Addr) (L R : List UInt8) (bs : List (List UInt8)) (hF : Frs L bs R) (hl : L.length ≤ 140737488351232) (hlc : L.length ≤ ca) (J Jx : List Nat → World → Prop)
    (W : World) (hJ : AbidesFrom W.heap.size J)
    (hY : ∀ pre x W1, J pre W1 → pre.length < bs.length + 1 → YieldAt Fence.wide (n - 1) Try.prog l (encsF A L ca bs x) W1 fun e W' =>
      (e = .returned (.bool true) ∧ J (pre ++ [x]) W' ∧ KeepF n₀ W1 W') ∨ (e = .returned (.bool false) ∧ Jx (pre ++ [x]) W'))
    (hB : HasB n₀ Bx A L ca W) (h0 : J [] W) :
    CallsIn Fence.wide n Try.prog 40 #[.func (.yield l) #[] #[], .pointer (some ⟨Bx, 0, none⟩)] W fun e W' => (∃ v, e = .returned v) ∧
      ((∃ xs, xs = List.range (bs.length + 1) ∧ J xs W') ∨ (∃ pre, (∃ k, k ≤ bs.length ∧ pre = List.range (k + 1)) ∧ Jx pre W')) := by
  have hJ2 : Hid (AbidesFrom W.heap.size J) := hJ
  clear hJ
  refine callsIn_of_wp Try.func40 rfl trivial ?_ rfl
  simp only [Try.ntmps40, List.size_toArray, List.length_cons, List.length_nil, Nat.reduceAdd, Nat.reduceSub, Array.replicate_succ, Array.replicate_zero, List.push_toArray, List.append_toArray, List.nil_append, List.cons_append]
  gi_wp2
  gi_loopw [3] (fun p wr => ∃ i : Nat, i ≤ bs.length ∧ p = .int .i64 (pos bs i : Int) ∧ HasB n₀ Bx A L ca wr ∧ J (List.range i) wr)
    (fun p _ => L.length - (intOf p).toNat)
  case atStart => exact ⟨0, Nat.zero_le _, rfl, hB, h0⟩
  case round =>
    clear hB h0
    obtain ⟨i, hi, rfl, hb, hj⟩ := hrel
    have cbx := box_cell hb.box
    have clk := callsIn_wide (n := n - 1) |>.2 (look_any A L ca (pos bs i) wr hl hlc (hF.le i) hb.bytes.bs)
    obtain ⟨a, m, c, d, er, efv, hways⟩ := fv_parts hF A ca i hi
    rw [efv] at clk
    have HB := Lib.hid hb
    have HJ := Lib.hid hj
    have HFV := Lib.hid efv
    clear hb hj efv
    gi_wp2_with (refine ⟨trivial, ?_⟩; gi_at_call 27; refine clk.mono ?_; rintro e w1 ⟨rfl, hb1⟩; have HB1 := Lib.hid (hb1.alloc (o := foundO a m c d er) hb1.size); obtain ⟨fn, tmps, assign, body, hy, hR⟩ := hY (List.range i) i (w1.alloc (foundO a m c d er)) (abides_new hJ2.out HJ.out HB1.out) (by simp; omega); dsimp only [encsF] at hy; rw [HFV.out] at hy; clear clk hb1)
    refine hR.mono ?_
    rintro e w3 (⟨rfl, hj3, hk3⟩ | ⟨rfl, hx3⟩)
    · have hblk := hk3.2 _ _ _ (heap_alloc_new w1 _) (.inr rfl)
      obtain ⟨c0, c1, c2, _⟩ := fo_cells hblk
      have HB3 := Lib.hid ((HB.out.next HB1.out).kept hk3)
      have HJ3 := Lib.hid hj3
      clear hj3 hk3 hblk hy hR HB HJ
      rcases hways with ⟨hlt, e1, e2, hd⟩ | ⟨rfl, e1, e2⟩
      · have hlt2 := hF.lt hlt
        have hpl := hF.le (i + 1)
        have hp6 := pos_six hF.ok hlt
        gi_wp2
        go_roundw
        case rel => exact ⟨i + 1, hlt, by rw [hd.out], HB3.out, by rw [List.range_succ]; exact HJ3.out⟩
        case measure => rw [hd.out]; simp [intOf]; omega
      · gi_wp2
        refine bodyPost_ret (results_none rfl _ _ _) rfl ?_
        exact ⟨⟨_, rfl⟩, .inl ⟨_, rfl, by rw [List.range_succ]; exact HJ3.out⟩⟩
    · gi_wp2
      refine bodyPost_ret (results_none rfl _ _ _) rfl ?_
      exact ⟨⟨_, rfl⟩, .inr ⟨_, ⟨i, hi, by rw [List.range_succ]⟩, hx3⟩⟩

/-- steps hands back a value that ranges so. -/
theorem steps_stops (n : Nat) (hn : 1 ≤ n) (Bx n₀ ca : Nat) (A : Option Addr) (L R : List UInt8) (bs : List (List UInt8)) (hF : Frs L bs R) (hl : L.length ≤ 140737488351232) (hlc : L.length ≤ ca) (w : World) (hB : HasB n₀ Bx A L ca w) :
    SeqStopsK Fence.wide n Try.prog 40 #[.pointer (some ⟨Bx, 0, none⟩)] (encsF A L ca bs) (KeepF n₀) (fun xs => xs = List.range (bs.length + 1)) (fun pre => ∃ k, k ≤ bs.length ∧ pre = List.range (k + 1)) (bs.length + 1) w :=
  fun l J Jx W hW hJ _ hY h0 => steps1_in n hn l Bx n₀ ca A L R bs hF hl hlc J Jx W hJ hY (hB.next hW) h0

theorem steps_any (A : Option Addr) (n ca : Nat) (w : World) :
    Calls Try.prog 29 #[.slice A n ca] w fun e w' => e = .returned (.func (.func 40) #[] #[.pointer (some ⟨w.heap.size, 0, none⟩)]) ∧ w' = w.alloc (.cells #[.slice A n ca] 22) := by
  go_enter Try.func29, Try.ntmps29
  go_wp2
  go_ret
  exact ⟨rfl, rfl⟩
end Go.Proofs.Ytpkbjiakjofcnaa
