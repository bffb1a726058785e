/- A block of the call's own that is known whole: kept behind calls, turned by stores; a command's block, a reply's. -/
import Derived.Test.YtindkpfmflcibaaGreatDoorWD
namespace Go.Proofs.YtindkpfmflcibaaGreatDoor
open Go.RowKit

/-- Block b holds these cells. -/
def Blk (w : World) (b : Nat) (t : TypeId) (cs : Array Value) : Prop := w.heap[b]? = some (.cells cs t (0, 0))
/-- None of them is a byte. -/
def noU8 (cs : Array Value) : Bool := cs.all fun v => match v with | .int .u8 _ => false | _ => true
section
variable {w w' : World} {b g N : Nat} {t : TypeId} {cs : Array Value} {s : St}
theorem Blk.lt (h : Blk w b t cs) : b < w.heap.size := by
  rcases Nat.lt_or_ge b w.heap.size with hlt | hge
  · exact hlt
  · unfold Blk at h; rw [Array.getElem?_eq_none hge] at h; cases h
theorem Blk.new (w : World) (cs : Array Value) (t : TypeId) : Blk (w.alloc (.cells cs t)) w.heap.size t cs := heap_alloc_new w _
theorem Blk.later (h : Blk w b t cs) (hb : Below w.heap.size w w') : Blk w' b t cs := (hb.block b h.lt).trans h
theorem Blk.only (h : Blk w b t cs) (ho : Only g w w') (hne : b ≠ g) : Blk w' b t cs := (ho.block b hne).trans h
theorem Blk.onl (h : Blk w b t cs) (ho : Onl g w w') (hne : b ≠ g) : Blk w' b t cs := (ho.block b h.lt hne).trans h
theorem Blk.set (h : Blk w b t cs) (i : Nat) (u : Value) : Blk (w.setCell ⟨b, i, none⟩ u) b t (cs.setIfInBounds i u) := heap_setCell_same w b i cs t u h
theorem Blk.cell (h : Blk w b t cs) (i : Nat) : w.cell? ⟨b, i, none⟩ = cs[i]? := cell_of_row w b i cs t (0, 0) h
theorem Blk.thaw (h : Blk w b t cs) (i : Nat) : w.frozen? ⟨b, i, none⟩ = false := by unfold Blk at h; simp [World.frozen?, h]
theorem Blk.apart (h : Blk w b t cs) (hn : noU8 cs = true) {k off : Nat} {c : Int} (hc : w.cell? ⟨k, off, none⟩ = some (.int .u8 c)) : k ≠ b := by
  rintro rfl
  rw [h.cell off] at hc
  unfold noU8 at hn
  rw [Array.all_eq_true] at hn
  obtain ⟨hl, he⟩ := Array.getElem?_eq_some_iff.1 hc
  have := hn off hl
  rw [he] at this
  cases this
theorem Bs.blk {A : Option Addr} {L : List UInt8} (hB : Bs w A L) (h : Blk w b t cs) (hn : noU8 cs = true) (ho : Only b w w') : Bs w' A L := fun h0 => by
  obtain ⟨k, off, e, hc⟩ := hB h0
  refine ⟨k, off, e, fun j hj => ?_⟩
  exact (World.cell?_of_block (w := w) (a := ⟨k, off + j, none⟩) (ho.block k (h.apart hn (hc j hj)))).trans (hc j hj)
theorem Rd.blk (hr : Rd N w g s) (h : Blk w b t cs) (hn : noU8 cs = true) (ho : Only b w w') (hne : g ≠ b) : Rd N w' g s := by
  obtain ⟨h1, h2, h3, A', cap', h4, h5, h6⟩ := hr
  refine ⟨h1, h2, h3, A', cap', (ho.block g hne).trans h4, h5, fun h0 => ?_⟩
  obtain ⟨k, off, e, hN, hc⟩ := h6 h0
  refine ⟨k, off, e, hN, fun j hj => ?_⟩
  exact (World.cell?_of_block (w := w) (a := ⟨k, off + j, none⟩) (ho.block k (h.apart hn (hc j hj)))).trans (hc j hj)
theorem RR.blk (hr : RR w g s) (h : Blk w b t cs) (hn : noU8 cs = true) (ho : Only b w w') (hne : g ≠ b) : RR w' g s := by
  obtain ⟨A, C, cap, at_, hb, e⟩ := hr
  exact ⟨A, C, cap, at_, ⟨(ho.block g hne).trans hb.1, hb.2.1.blk h hn ho, hb.2.2⟩, e⟩
theorem below_drewN {w w' : World} {B : Nat} (h : Below B w w') (m : Nat) : Below B w (w'.drewN m) := ⟨h.os, h.tape, h.output, h.size, h.block⟩
theorem RR.first {w : World} {A : Option Addr} {L : List UInt8} {cap : Nat} (hB : Bs w A L) (hlc : L.length ≤ cap) (hl : L.length ≤ 140737488355328) (ty : TypeId) (h : ty = 63) :
    RR (w.alloc (.cells #[.slice A L.length cap, .int .i64 0, .bool false] ty)) w.heap.size (L, false) := by
  subst h
  exact ⟨A, L, cap, 0, ⟨heap_alloc_new w _, hB.below (below_alloc _ _), hlc, hl, Nat.zero_le _⟩, rfl⟩
end
/-- A command's cells, and a command as a value. -/
abbrev cs8 (kd se sq : Int) (f : ByteArray) (ve K n : Int) (s : ByteArray) : Array Value := #[.int .i64 kd, .int .i64 se, .int .i64 sq, .string f, .int .i64 ve, .int .i64 K, .int .i64 n, .string s]
abbrev V8 (kd se sq : Int) (f : ByteArray) (ve K n : Int) (s : ByteArray) : Value := .agg (cs8 kd se sq f ve K n s)
abbrev cs5 (e n K m : Int) (s : ByteArray) : Array Value := #[.int .i64 e, .int .i64 n, .int .i64 K, .int .i64 m, .string s]
abbrev V5 (e n K m : Int) (s : ByteArray) : Value := .agg (cs5 e n K m s)
section
variable {w : World} {b : Nat} {kd se sq : Int} {f : ByteArray} {ve K n : Int} {s : ByteArray}
theorem Blk.t8 {t : TypeId} {cs : Array Value} (h : Blk w b t cs) : w.frozen? ⟨b, 0, none⟩ = false ∧ w.frozen? ⟨b, 1, none⟩ = false ∧ w.frozen? ⟨b, 2, none⟩ = false ∧ w.frozen? ⟨b, 3, none⟩ = false ∧ w.frozen? ⟨b, 4, none⟩ = false ∧ w.frozen? ⟨b, 5, none⟩ = false ∧ w.frozen? ⟨b, 6, none⟩ = false ∧ w.frozen? ⟨b, 7, none⟩ = false :=
  ⟨h.thaw 0, h.thaw 1, h.thaw 2, h.thaw 3, h.thaw 4, h.thaw 5, h.thaw 6, h.thaw 7⟩
theorem Blk.c5 {e : Int} (h : Blk w b 34 (cs5 e n K ve s)) : b < w.heap.size ∧ w.cell? ⟨b, 0, none⟩ = some (.int .i64 e) ∧ w.cell? ⟨b, 1, none⟩ = some (.int .i64 n) ∧ w.cell? ⟨b, 2, none⟩ = some (.int .i64 K) ∧ w.cell? ⟨b, 3, none⟩ = some (.int .i64 ve) ∧ w.cell? ⟨b, 4, none⟩ = some (.string s) := by
  refine ⟨h.lt, ?_, ?_, ?_, ?_, ?_⟩ <;> rw [h.cell] <;> rfl
end
theorem Blk.m3 {w : World} {b : Nat} {x y z : Value} {t : TypeId} (h : Blk w b t #[x, y, z]) : b < w.heap.size ∧ w.cell? ⟨b, 0, none⟩ = some x ∧ w.cell? ⟨b, 1, none⟩ = some y ∧ w.cell? ⟨b, 2, none⟩ = some z := by
  refine ⟨h.lt, ?_, ?_, ?_⟩ <;> rw [h.cell] <;> rfl
theorem noU8_8 (kd se sq : Int) (f : ByteArray) (ve K n : Int) (s : ByteArray) : noU8 (cs8 kd se sq f ve K n s) = true := by simp [noU8]
theorem noU8_5 (e n K m : Int) (s : ByteArray) : noU8 (cs5 e n K m s) = true := by simp [noU8]
end Go.Proofs.YtindkpfmflcibaaGreatDoor
