/- A reader in memory: what is left to it, whether it failed; a world in which one block alone has turned. Contracts of wire.New, Left, Ok, End, Fail. -/
import Derived.Test.YtfcigknalnmhcaaDoorPuts
import Derived.StillTailTactics
namespace Go.Proofs.YtfcigknalnmhcaaDoor
open Go.ChangeShapes Go.WideShapes Go.ChangeAt Go.RowKit

/-- One block alone may have turned. -/
structure Only (g : Nat) (w w' : World) : Prop where
  os : w'.os = w.os
  tape : w'.tape = w.tape
  output : w'.output = w.output
  size : w'.heap.size = w.heap.size
  block : ∀ k, k ≠ g → w'.heap[k]? = w.heap[k]?
theorem Only.refl (g : Nat) (w : World) : Only g w w := ⟨rfl, rfl, rfl, rfl, fun _ _ => rfl⟩
theorem Only.trans {g : Nat} {a b c : World} (h : Only g a b) (k : Only g b c) : Only g a c :=
  ⟨k.os.trans h.os, k.tape.trans h.tape, k.output.trans h.output, k.size.trans h.size, fun i hi => (k.block i hi).trans (h.block i hi)⟩
theorem Only.drew {g : Nat} {a w : World} (h : Only g a w) : Only g a w.drew := ⟨h.os, h.tape, h.output, h.size, h.block⟩
theorem Only.setCell {g : Nat} {a w : World} (h : Only g a w) (i : Nat) (u : Value) : Only g a (w.setCell ⟨g, i, none⟩ u) :=
  h.trans ⟨rfl, rfl, rfl, by simp [World.setCell], fun k hk => Below.heap_setCell _ _ _ _ hk⟩
theorem Only.below {g B : Nat} {w w' : World} (h : Only g w w') (hB : B ≤ g) : Below B w w' :=
  ⟨h.os, h.tape, h.output, Nat.le_of_eq h.size.symm, fun k hk => h.block k (by omega)⟩

/-- Bytes that lie in blocks from N on. -/
def BsN (N : Nat) (w : World) (A : Option Addr) (L : List UInt8) : Prop := 0 < L.length → ∃ b off, A = some ⟨b, off, none⟩ ∧ N ≤ b ∧ ∀ j, j < L.length → w.cell? ⟨b, off + j, none⟩ = some (.int .u8 ((L.getD j 0).toNat : Int))
theorem BsN.bs {N : Nat} {w : World} {A : Option Addr} {L : List UInt8} (h : BsN N w A L) : Bs w A L := fun h0 => by
  obtain ⟨b, off, e, _, hc⟩ := h h0
  exact ⟨b, off, e, hc⟩
theorem BsN.nil (N : Nat) (w : World) (A : Option Addr) : BsN N w A [] := fun h => absurd h (by decide)
theorem BsN.drop {N : Nat} {w : World} {A : Option Addr} {L : List UInt8} (h : BsN N w A L) (k cap : Nat) (hk : L.length ≤ cap) : BsN N w (if cap = k then A else A.map (·.add k)) (L.drop k) := fun h0 => by
  rw [List.length_drop] at h0
  obtain ⟨b, off, rfl, hN, hc⟩ := h (by omega)
  rw [if_neg (by omega)]
  refine ⟨b, off + k, by show some ((⟨b, off, none⟩ : Addr).add k) = _; rw [add_plain], hN, fun j hj => ?_⟩
  rw [List.length_drop] at hj
  rw [Nat.add_assoc, hc (k + j) (by omega), List.getD_eq_getElem?_getD, List.getD_eq_getElem?_getD, List.getElem?_drop]
theorem BsN.of_own {N : Nat} {w : World} {A : Option Addr} {L : List UInt8} {cap : Nat} (hown : w.ownsRow N 5 1 (.slice A L.length cap) L.length (Lib.byteCells L)) : BsN N w A L := fun h0 => by
  obtain ⟨A1, cap1, e, hB⟩ := bs_own hown
  injection e with e1 e2 e3
  subst e1
  obtain ⟨b, off, rfl, hc⟩ := hB h0
  refine ⟨b, off, rfl, ?_, hc⟩
  rcases hown.2 with ⟨e, h⟩ | ⟨g, c, cur, e, hg, _⟩
  · omega
  · injection e with e
    injection e with e
    injection e with e
    omega
/-- Kept where the blocks from N on are. -/
theorem BsN.kept {N : Nat} {w w' : World} {A : Option Addr} {L : List UInt8} (h : BsN N w A L) (hk : ∀ k, N ≤ k → k < w.heap.size → w'.heap[k]? = w.heap[k]?) : BsN N w' A L := fun h0 => by
  obtain ⟨b, off, e, hN, hc⟩ := h h0
  have hl := Bs.lt h0 hc
  exact ⟨b, off, e, hN, fun j hj => (World.cell?_of_block (w := w) (a := ⟨b, off + j, none⟩) (hk b hN hl)).trans (hc j hj)⟩

/-- The reader lies in block g, its bytes from block N on. -/
def Rd (N : Nat) (w : World) (g : Nat) (s : St) : Prop := N ≤ g ∧ (s.2 = true → s.1 = []) ∧ s.1.length ≤ 140737488355328 ∧
  ∃ A cap, w.heap[g]? = some (.cells #[.slice A s.1.length cap, .bool s.2] 89 (0, 0)) ∧ s.1.length ≤ cap ∧ BsN N w A s.1
theorem Rd.lt {N : Nat} {w : World} {g : Nat} {s : St} (h : Rd N w g s) : g < w.heap.size := by
  obtain ⟨_, _, _, A, cap, h, _⟩ := h
  rcases Nat.lt_or_ge g w.heap.size with hlt | hge
  · exact hlt
  · rw [Array.getElem?_eq_none hge] at h; cases h
/-- Bytes don't lie in a reader's block. -/
theorem Rd.apart {N : Nat} {w : World} {g : Nat} {s : St} (h : Rd N w g s) {b off : Nat} {c : Int} (hc : w.cell? ⟨b, off, none⟩ = some (.int .u8 c)) : b ≠ g := by
  rintro rfl
  obtain ⟨_, _, _, A, cap, h, _⟩ := h
  rw [cell_of_row w b off _ _ _ h] at hc
  match off with
  | 0 => simp at hc
  | 1 => simp at hc
  | k + 2 => simp at hc
theorem BsN.only {N M : Nat} {w w' : World} {A : Option Addr} {L : List UInt8} {g : Nat} {s : St} (h : BsN N w A L) (hr : Rd M w g s) (ho : Only g w w') : BsN N w' A L := fun h0 => by
  obtain ⟨b, off, e, hN, hc⟩ := h h0
  refine ⟨b, off, e, hN, fun j hj => ?_⟩
  exact (World.cell?_of_block (w := w) (a := ⟨b, off + j, none⟩) (ho.block b (hr.apart (hc j hj)))).trans (hc j hj)
theorem Bs.only {M : Nat} {w w' : World} {A : Option Addr} {L : List UInt8} {g : Nat} {s : St} (h : Bs w A L) (hr : Rd M w g s) (ho : Only g w w') : Bs w' A L := fun h0 => by
  obtain ⟨b, off, e, hc⟩ := h h0
  refine ⟨b, off, e, fun j hj => ?_⟩
  exact (World.cell?_of_block (w := w) (a := ⟨b, off + j, none⟩) (ho.block b (hr.apart (hc j hj)))).trans (hc j hj)
/-- Another reader is kept. -/
theorem Rd.other {N M : Nat} {w w' : World} {g g' : Nat} {s s' : St} (h : Rd N w g s) (hr : Rd M w g' s') (ho : Only g' w w') (hne : g ≠ g') : Rd N w' g s := by
  obtain ⟨h1, h2, h3, A, cap, h4, h5, h6⟩ := h
  exact ⟨h1, h2, h3, A, cap, (ho.block g hne).trans h4, h5, h6.only hr ho⟩
/-- A reader is kept where the blocks from N on are. -/
theorem Rd.kept {N : Nat} {w w' : World} {g : Nat} {s : St} (h : Rd N w g s) (hk : ∀ k, N ≤ k → k < w.heap.size → w'.heap[k]? = w.heap[k]?) : Rd N w' g s := by
  have hl := h.lt
  obtain ⟨h1, h2, h3, A, cap, h4, h5, h6⟩ := h
  exact ⟨h1, h2, h3, A, cap, (hk g h1 hl).trans h4, h5, h6.kept hk⟩
theorem Rd.below {N B : Nat} {w w' : World} {g : Nat} {s : St} (h : Rd N w g s) (hb : Below B w w') (hB : w.heap.size ≤ B) : Rd N w' g s :=
  h.kept fun k _ hk => hb.block k (by omega)
theorem Rd.drew {N : Nat} {w : World} {g : Nat} {s : St} (h : Rd N w g s) : Rd N w.drew g s := h
/-- What the walk reads of a reader. -/
theorem Rd.cells {N : Nat} {w : World} {g : Nat} {s : St} (h : Rd N w g s) : ∃ A cap, w.cell? ⟨g, 0, none⟩ = some (.slice A s.1.length cap) ∧ w.cell? ⟨g, 1, none⟩ = some (.bool s.2) ∧ w.frozen? ⟨g, 0, none⟩ = false ∧ w.frozen? ⟨g, 1, none⟩ = false ∧ s.1.length ≤ cap ∧ BsN N w A s.1 := by
  obtain ⟨_, _, _, A, cap, h4, h5, h6⟩ := h
  refine ⟨A, cap, ?_, ?_, ?_, ?_, h5, h6⟩
  · rw [cell_of_row w g 0 _ _ _ h4]; rfl
  · rw [cell_of_row w g 1 _ _ _ h4]; rfl
  · simp [World.frozen?, h4]
  · simp [World.frozen?, h4]
theorem Rd.len {N : Nat} {w : World} {g : Nat} {s : St} (h : Rd N w g s) : s.1.length ≤ 140737488355328 := h.2.2.1
theorem Rd.dead {N : Nat} {w : World} {g : Nat} {s : St} (h : Rd N w g s) (hb : s.2 = true) : s.1 = [] := h.2.1 hb
/-- The first field is written. -/
theorem Rd.cut {N : Nat} {w : World} {g : Nat} {s : St} (h : Rd N w g s) {A : Option Addr} {L : List UInt8} {cap : Nat} (hl : L.length ≤ s.1.length) (hlc : L.length ≤ cap) (hB : BsN N w A L) : Rd N (w.setCell ⟨g, 0, none⟩ (.slice A L.length cap)) g (L, s.2) := by
  have hr := h
  obtain ⟨h1, h2, h3, A0, cap0, h4, h5, h6⟩ := h
  refine ⟨h1, fun hb => ?_, Nat.le_trans hl h3, A, cap, ?_, hlc, hB.only hr ((Only.refl g w).setCell 0 _)⟩
  · have := h2 hb
    rw [this] at hl
    exact List.eq_nil_of_length_eq_zero (Nat.le_zero.1 hl)
  · rw [heap_setCell_same w g 0 _ _ _ h4]; rfl
theorem Rd.fail {N : Nat} {w : World} {g : Nat} {s : St} (h : Rd N w g s) : Rd N ((w.setCell ⟨g, 0, none⟩ (.slice none 0 0)).setCell ⟨g, 1, none⟩ (.bool true)) g ([], true) := by
  obtain ⟨h1, h2, h3, A0, cap0, h4, h5, h6⟩ := h
  refine ⟨h1, fun _ => rfl, Nat.zero_le _, none, 0, ?_, Nat.le_refl _, BsN.nil _ _ _⟩
  have h7 := heap_setCell_same w g 0 _ _ (.slice none 0 0) h4
  rw [heap_setCell_same _ g 1 _ _ _ h7]; rfl
theorem Rd.made (N : Nat) (w : World) (L : List UInt8) (A : Option Addr) (cap : Nat) (hN : N ≤ w.heap.size) (hl : L.length ≤ 140737488355328) (hlc : L.length ≤ cap) (hB : BsN N w A L) (t : TypeId) (ht : t = 89) :
    Rd N (w.alloc (.cells #[.slice A L.length cap, .bool false] t)) w.heap.size (L, false) := by
  subst ht
  refine ⟨hN, (fun h => by cases h), hl, A, cap, heap_alloc_new w _, hlc, ?_⟩
  exact hB.kept fun k _ hk => Below.heap_alloc _ _ _ hk

/-- What a method leaves: the answer, the reader behind it, and nothing else has turned. -/
def Left (N : Nat) (w : World) (g : Nat) (v : Value) (s : St) (e : Ending) (w' : World) : Prop := e = .returned v ∧ Rd N w' g s ∧ Only g w w'

def Made (w : World) (L : List UInt8) (e : Ending) (w' : World) : Prop := ∃ g, e = .returned (.pointer (some ⟨g, 0, none⟩)) ∧ Rd w.heap.size w' g (L, false) ∧ Below w.heap.size w w'

theorem own_form {B : Nat} {w : World} {v : Value} {L : List UInt8} (h : w.ownsRow B 5 1 v (0 + L.length) ([] ++ Lib.byteCells L)) : ∃ A cap, v = .slice A L.length cap ∧ w.ownsRow B 5 1 (.slice A L.length cap) L.length (Lib.byteCells L) := by
  rw [Nat.zero_add, List.nil_append] at h
  obtain ⟨A, cap, rfl, _⟩ := bs_own h
  exact ⟨A, cap, rfl, h⟩

set_option maxHeartbeats 400000 in
theorem new_any (A : Option Addr) (L : List UInt8) (cap : Nat) (w : World) (hl : L.length ≤ 140737488355328) (hB : Bs w A L) (hcap : A = none → cap = 0) :
    Calls Tryd.prog 35 #[.slice A L.length cap] w (Made w L) := by
  obtain ⟨i0, hi, hz0, hz1, hz2⟩ := info_parts (show (Tryd.prog.info? 5).map (fun i => (i.zero, i.size, i.bytes)) = some (some (.int .u8 0), 1, 1) by kernel_rfl)
  cases A with
  | none =>
    obtain rfl := hcap rfl
    have h0 : L = [] := by
      cases L with
      | nil => rfl
      | cons c L => obtain ⟨b, off, e, _⟩ := hB (by simp); cases e
    subst h0
    go_enter Tryd.func35, Tryd.ntmps35
    go_wp2_with (at_builtin; refine wpList_append_own_none rfl (.const (.slice none 0 0)) (.tmp 3) _ rfl w.heap.size 5 i0 1 Tryd.underlying48 hi (.slice none 0 0) 0 [] rfl (World.ownsRow_nil _ _ _ _) rfl ?_)
    go_ret
    exact ⟨_, rfl, Rd.made _ w [] none 0 (Nat.le_refl _) (by simp) (Nat.le_refl _) (BsN.nil _ _ _) _ rfl, (Below.refl _ _).alloc (Nat.le_refl _) _⟩
  | some ad =>
    have hc := bs_cells hB
    have ho := bytes_one L
    have HC := Lib.hid hc
    have HO := Lib.hid ho
    clear hc ho hB hcap
    go_enter Tryd.func35, Tryd.ntmps35
    go_wp2_with (at_builtin; refine wpList_append_own _ rfl (.const (.slice none 0 0)) (.tmp 3) _ rfl w.heap.size 5 i0 _ 1 1 Tryd.underlying48 hi hz0 hz1 hz2 rfl (by omega) (.slice none 0 0) 0 [] rfl (World.ownsRow_nil _ _ _ _) ad L.length cap (Lib.byteCells L) rfl (by rw [Lib.byteCells_length]; omega) HC.out HO.out (by unfold maxLen; omega) (by omega) (Nat.le_refl _) ?_; intro v1 w1 hown0 hg1 _; obtain ⟨A1, cap1, rfl, hown1⟩ := own_form hown0; clear hown0)
    have hb1 : Below w.heap.size w w1 := (Below.refl _ _).grown hg1 (Nat.le_refl _) (by simp [Value.ownBlock])
    have hlc : L.length ≤ cap1 := by
      rcases hown1.2 with ⟨e, h⟩ | ⟨g, c, cur, e, _, _, h, _⟩
      · omega
      · injection e with _ _ e; omega
    go_ret
    exact ⟨_, rfl, Rd.made _ w1 L A1 cap1 hb1.size hl hlc (BsN.of_own hown1) _ rfl, hb1.alloc hb1.size _⟩
end Go.Proofs.YtfcigknalnmhcaaDoor
