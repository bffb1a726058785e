/- The document's own reader in memory. Contracts of its Left and End. -/
import Derived.Test.YtfcigknalnmhcaaDoorReadText
import Derived.StillTailTactics
import Derived.Deep.QuietTactic
import Derived.BigQuiet
namespace Go.Proofs.YtfcigknalnmhcaaDoor
open Go.RowKit

/-- The document's reader lies in block g, as it stands. -/
def RB (w : World) (g : Nat) (A : Option Addr) (C : List UInt8) (cap at_ : Nat) (bad : Bool) : Prop :=
  w.heap[g]? = some (.cells #[.slice A C.length cap, .int .i64 (at_ : Int), .bool bad] 57 (0, 0)) ∧ Bs w A C ∧ C.length ≤ cap ∧ C.length ≤ 140737488355328 ∧ at_ ≤ C.length
section
variable {w w' : World} {g : Nat} {A : Option Addr} {C : List UInt8} {cap at_ : Nat} {bad : Bool}
theorem RB.lt (h : RB w g A C cap at_ bad) : g < w.heap.size := by
  obtain ⟨h, _⟩ := h
  rcases Nat.lt_or_ge g w.heap.size with hlt | hge
  · exact hlt
  · rw [Array.getElem?_eq_none hge] at h; cases h
theorem RB.apart (h : RB w g A C cap at_ bad) {b off : Nat} {c : Int} (hc : w.cell? ⟨b, off, none⟩ = some (.int .u8 c)) : b ≠ g := by
  rintro rfl
  obtain ⟨h, _⟩ := h
  rw [cell_of_row w b off _ _ _ h] at hc
  match off with
  | 0 => simp at hc
  | 1 => simp at hc
  | 2 => simp at hc
  | k + 3 => simp at hc
theorem RB.bytes (h : RB w g A C cap at_ bad) {A' : Option Addr} {L : List UInt8} (hB : Bs w A' L) (ho : Only g w w') : Bs w' A' L := fun h0 => by
  obtain ⟨b, off, e, hc⟩ := hB h0
  refine ⟨b, off, e, fun j hj => ?_⟩
  exact (World.cell?_of_block (w := w) (a := ⟨b, off + j, none⟩) (ho.block b (h.apart (hc j hj)))).trans (hc j hj)
theorem RB.drew (h : RB w g A C cap at_ bad) : RB w.drew g A C cap at_ bad := h
theorem RB.cells (h : RB w g A C cap at_ bad) : w.cell? ⟨g, 0, none⟩ = some (.slice A C.length cap) ∧ w.cell? ⟨g, 1, none⟩ = some (.int .i64 (at_ : Int)) ∧ w.cell? ⟨g, 2, none⟩ = some (.bool bad) ∧ w.frozen? ⟨g, 1, none⟩ = false ∧ w.frozen? ⟨g, 2, none⟩ = false := by
  obtain ⟨h4, _⟩ := h
  refine ⟨?_, ?_, ?_, ?_, ?_⟩
  · rw [cell_of_row w g 0 _ _ _ h4]; rfl
  · rw [cell_of_row w g 1 _ _ _ h4]; rfl
  · rw [cell_of_row w g 2 _ _ _ h4]; rfl
  · simp [World.frozen?, h4]
  · simp [World.frozen?, h4]
theorem RB.setAt (h : RB w g A C cap at_ bad) {n : Nat} (hn : n ≤ C.length) : RB (w.setCell ⟨g, 1, none⟩ (.int .i64 (n : Int))) g A C cap n bad := by
  have hb := h.bytes h.2.1 ((Only.refl g w).setCell 1 (.int .i64 (n : Int)))
  obtain ⟨h4, h5, h6, h7, h8⟩ := h
  exact ⟨by rw [heap_setCell_same w g 1 _ _ _ h4]; rfl, hb, h6, h7, hn⟩
theorem RB.setBad (h : RB w g A C cap at_ bad) : RB (w.setCell ⟨g, 2, none⟩ (.bool true)) g A C cap at_ true := by
  have hb := h.bytes h.2.1 ((Only.refl g w).setCell 2 (.bool true))
  obtain ⟨h4, h5, h6, h7, h8⟩ := h
  exact ⟨by rw [heap_setCell_same w g 2 _ _ _ h4]; rfl, hb, h6, h7, h8⟩
theorem RB.other (h : RB w g A C cap at_ bad) {M g' : Nat} {s : St} (hr : Rd M w g' s) (ho : Only g' w w') (hne : g ≠ g') : RB w' g A C cap at_ bad :=
  ⟨(ho.block g hne).trans h.1, h.2.1.only hr ho, h.2.2⟩
theorem Rd.otherR {N : Nat} {s : St} {g' : Nat} (hr : Rd N w g' s) (h : RB w g A C cap at_ bad) (ho : Only g w w') (hne : g' ≠ g) : Rd N w' g' s := by
  obtain ⟨h1, h2, h3, A', cap', h4, h5, h6⟩ := hr
  refine ⟨h1, h2, h3, A', cap', (ho.block g' hne).trans h4, h5, fun h0 => ?_⟩
  obtain ⟨b, off, e, hN, hc⟩ := h6 h0
  refine ⟨b, off, e, hN, fun j hj => ?_⟩
  exact (World.cell?_of_block (w := w) (a := ⟨b, off + j, none⟩) (ho.block b (h.apart (hc j hj)))).trans (hc j hj)
end

/-- The document's reader, by what is left to it. -/
def RR (w : World) (g : Nat) (s : St) : Prop := ∃ A C cap at_, RB w g A C cap at_ s.2 ∧ s.1 = if s.2 then [] else C.drop at_
section
variable {w w' : World} {g : Nat} {s : St}
theorem RR.dead {A : Option Addr} {C : List UInt8} {cap at_ : Nat} (h : RB w g A C cap at_ true) : RR w g ([], true) := ⟨A, C, cap, at_, h, rfl⟩
theorem RR.live {A : Option Addr} {C L : List UInt8} {cap at_ : Nat} (h : RB w g A C cap at_ false) (hL : L = C.drop at_) : RR w g (L, false) := ⟨A, C, cap, at_, h, hL⟩
theorem RR.drew (h : RR w g s) : RR w.drew g s := h
theorem RR.other (h : RR w g s) {M g' : Nat} {s' : St} (hr : Rd M w g' s') (ho : Only g' w w') (hne : g ≠ g') : RR w' g s := by
  obtain ⟨A, C, cap, at_, h1, h2⟩ := h
  exact ⟨A, C, cap, at_, h1.other hr ho hne, h2⟩
theorem Rd.otherRR {N g' : Nat} {s' : St} (hr : Rd N w g' s') (h : RR w g s) (ho : Only g w w') (hne : g' ≠ g) : Rd N w' g' s' := by
  obtain ⟨A, C, cap, at_, h1, h2⟩ := h
  exact hr.otherR h1 ho hne
end

/-- What a method of the document's reader leaves. -/
def LeftR (w : World) (g : Nat) (v : Value) (s : St) (e : Ending) (w' : World) : Prop := e = .returned v ∧ RR w' g s ∧ Only g w w'

theorem ret_boolR {a b : Bool} (h : a = b) : Ending.returned (.bool a) = .returned (.bool (!false && b)) := by rw [h]; rfl
/-- Nothing but draws. -/
def Still (w w' : World) : Prop := ∃ n, w' = w.drewN n
theorem RR.still {w w' : World} {g : Nat} {s : St} (h : RR w g s) (k : Still w w') : RR w' g s := by obtain ⟨n, rfl⟩ := k; exact h

theorem refleft_any (g : Nat) (s : St) (w : World) (h : RR w g s) :
    Calls Tryd.prog 41 #[.pointer (some ⟨g, 0, none⟩)] w fun e w' => e = .returned (.int .i64 (s.1.length : Int)) ∧ ∃ n, w' = w.drewN n := by
  obtain ⟨L, b⟩ := s
  obtain ⟨A, C, cap, at_, h1, h2⟩ := h
  obtain ⟨c0, c1, c2, f1, f2⟩ := h1.cells
  obtain ⟨_, _, hlc, hl, hat⟩ := h1
  simp only at h2 c2
  cases b with
  | true =>
    rw [if_pos rfl] at h2
    subst h2
    go_enter Tryd.func41, Tryd.ntmps41
    go_wp2
    go_ret
    exact ⟨rfl, 0, rfl⟩
  | false =>
    rw [if_neg (by decide)] at h2
    have hlen : L.length = C.length - at_ := by rw [h2, List.length_drop]
    have HL := Lib.hid hlen
    have hw1 : IntKind.i64.wrap ((C.length : Int) - (at_ : Int)) = (C.length : Int) - (at_ : Int) := IntWalk.i64_in _ (by omega)
    clear h2 hlen
    go_enter Tryd.func41, Tryd.ntmps41
    go_wp2_with fail
    go_quiet (fail)
    go_wp2_with fail
    go_ret
    exact ⟨ret_int (by rw [HL.out]; omega), _, rfl⟩
end Go.Proofs.YtfcigknalnmhcaaDoor
