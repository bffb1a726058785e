/- Several texts in one: Reader, ReadSmall, ReadBool, ReadInt, ReadText. -/
import Derived.Test.YtindkpfmflcibaaGreatDoorWA
import Derived.StillTailTactics
import Derived.Outline
import Derived.Scope
import Derived.ScopeJumps
import Derived.FnLit
import Derived.Laws.BitsAllLaws
namespace Go.Proofs.YtindkpfmflcibaaGreatDoor
/- A reader in memory: what is left to it, whether it failed; a world in which one block alone has turned. Contracts of wire.New, Left, Ok, End, Fail. -/
section
open Go.ChangeShapes Go.WideShapes Go.ChangeAt Go.RowKit

/-- One block alone may have turned. -/
structure Only (g : Nat) (w w' : World) : Prop where
  os : w'.os = w.os
  tape : w'.tape = w.tape
  output : w'.output = w.output
  size : w'.heap.size = w.heap.size
  block : ∀ k, k ≠ g → w'.heap[k]? = w.heap[k]?
theorem Only.refl (g : Nat) (w : World) : Only g w w := ⟨rfl, rfl, rfl, rfl, fun _ _ => rfl⟩
theorem Only.trans {g : Nat} {a b c : World} (h : Only g a b) (k : Only g b c) : Only g a c :=
  ⟨k.os.trans h.os, k.tape.trans h.tape, k.output.trans h.output, k.size.trans h.size, fun i hi => (k.block i hi).trans (h.block i hi)⟩
theorem Only.drew {g : Nat} {a w : World} (h : Only g a w) : Only g a w.drew := ⟨h.os, h.tape, h.output, h.size, h.block⟩
theorem Only.setCell {g : Nat} {a w : World} (h : Only g a w) (i : Nat) (u : Value) : Only g a (w.setCell ⟨g, i, none⟩ u) :=
  h.trans ⟨rfl, rfl, rfl, by simp [World.setCell], fun k hk => Below.heap_setCell _ _ _ _ hk⟩
theorem Only.below {g B : Nat} {w w' : World} (h : Only g w w') (hB : B ≤ g) : Below B w w' :=
  ⟨h.os, h.tape, h.output, Nat.le_of_eq h.size.symm, fun k hk => h.block k (by omega)⟩

/-- Bytes that lie in blocks from N on. -/
def BsN (N : Nat) (w : World) (A : Option Addr) (L : List UInt8) : Prop := 0 < L.length → ∃ b off, A = some ⟨b, off, none⟩ ∧ N ≤ b ∧ ∀ j, j < L.length → w.cell? ⟨b, off + j, none⟩ = some (.int .u8 ((L.getD j 0).toNat : Int))
theorem BsN.bs {N : Nat} {w : World} {A : Option Addr} {L : List UInt8} (h : BsN N w A L) : Bs w A L := fun h0 => by
  obtain ⟨b, off, e, _, hc⟩ := h h0
  exact ⟨b, off, e, hc⟩
theorem BsN.nil (N : Nat) (w : World) (A : Option Addr) : BsN N w A [] := fun h => absurd h (by decide)
theorem BsN.drop {N : Nat} {w : World} {A : Option Addr} {L : List UInt8} (h : BsN N w A L) (k cap : Nat) (hk : L.length ≤ cap) : BsN N w (if cap = k then A else A.map (·.add k)) (L.drop k) := fun h0 => by
  rw [List.length_drop] at h0
  obtain ⟨b, off, rfl, hN, hc⟩ := h (by omega)
  rw [if_neg (by omega)]
  refine ⟨b, off + k, by show some ((⟨b, off, none⟩ : Addr).add k) = _; rw [add_plain], hN, fun j hj => ?_⟩
  rw [List.length_drop] at hj
  rw [Nat.add_assoc, hc (k + j) (by omega), List.getD_eq_getElem?_getD, List.getD_eq_getElem?_getD, List.getElem?_drop]
theorem BsN.of_own {N : Nat} {w : World} {A : Option Addr} {L : List UInt8} {cap : Nat} (hown : w.ownsRow N 5 1 (.slice A L.length cap) L.length (Lib.byteCells L)) : BsN N w A L := fun h0 => by
  obtain ⟨A1, cap1, e, hB⟩ := bs_own hown
  injection e with e1 e2 e3
  subst e1
  obtain ⟨b, off, rfl, hc⟩ := hB h0
  refine ⟨b, off, rfl, ?_, hc⟩
  rcases hown.2 with ⟨e, h⟩ | ⟨g, c, cur, e, hg, _⟩
  · omega
  · injection e with e
    injection e with e
    injection e with e
    omega
/-- Kept where the blocks from N on are. -/
theorem BsN.kept {N : Nat} {w w' : World} {A : Option Addr} {L : List UInt8} (h : BsN N w A L) (hk : ∀ k, N ≤ k → k < w.heap.size → w'.heap[k]? = w.heap[k]?) : BsN N w' A L := fun h0 => by
  obtain ⟨b, off, e, hN, hc⟩ := h h0
  have hl := Bs.lt h0 hc
  exact ⟨b, off, e, hN, fun j hj => (World.cell?_of_block (w := w) (a := ⟨b, off + j, none⟩) (hk b hN hl)).trans (hc j hj)⟩

/-- The reader lies in block g, its bytes from block N on. -/
def Rd (N : Nat) (w : World) (g : Nat) (s : St) : Prop := N ≤ g ∧ (s.2 = true → s.1 = []) ∧ s.1.length ≤ 140737488355328 ∧
  ∃ A cap, w.heap[g]? = some (.cells #[.slice A s.1.length cap, .bool s.2] 77 (0, 0)) ∧ s.1.length ≤ cap ∧ BsN N w A s.1
theorem Rd.lt {N : Nat} {w : World} {g : Nat} {s : St} (h : Rd N w g s) : g < w.heap.size := by
  obtain ⟨_, _, _, A, cap, h, _⟩ := h
  rcases Nat.lt_or_ge g w.heap.size with hlt | hge
  · exact hlt
  · rw [Array.getElem?_eq_none hge] at h; cases h
/-- Bytes don't lie in a reader's block. -/
theorem Rd.apart {N : Nat} {w : World} {g : Nat} {s : St} (h : Rd N w g s) {b off : Nat} {c : Int} (hc : w.cell? ⟨b, off, none⟩ = some (.int .u8 c)) : b ≠ g := by
  rintro rfl
  obtain ⟨_, _, _, A, cap, h, _⟩ := h
  rw [cell_of_row w b off _ _ _ h] at hc
  match off with
  | 0 => simp at hc
  | 1 => simp at hc
  | k + 2 => simp at hc
theorem BsN.only {N M : Nat} {w w' : World} {A : Option Addr} {L : List UInt8} {g : Nat} {s : St} (h : BsN N w A L) (hr : Rd M w g s) (ho : Only g w w') : BsN N w' A L := fun h0 => by
  obtain ⟨b, off, e, hN, hc⟩ := h h0
  refine ⟨b, off, e, hN, fun j hj => ?_⟩
  exact (World.cell?_of_block (w := w) (a := ⟨b, off + j, none⟩) (ho.block b (hr.apart (hc j hj)))).trans (hc j hj)
theorem Bs.only {M : Nat} {w w' : World} {A : Option Addr} {L : List UInt8} {g : Nat} {s : St} (h : Bs w A L) (hr : Rd M w g s) (ho : Only g w w') : Bs w' A L := fun h0 => by
  obtain ⟨b, off, e, hc⟩ := h h0
  refine ⟨b, off, e, fun j hj => ?_⟩
  exact (World.cell?_of_block (w := w) (a := ⟨b, off + j, none⟩) (ho.block b (hr.apart (hc j hj)))).trans (hc j hj)
/-- Another reader is kept. -/
theorem Rd.other {N M : Nat} {w w' : World} {g g' : Nat} {s s' : St} (h : Rd N w g s) (hr : Rd M w g' s') (ho : Only g' w w') (hne : g ≠ g') : Rd N w' g s := by
  obtain ⟨h1, h2, h3, A, cap, h4, h5, h6⟩ := h
  exact ⟨h1, h2, h3, A, cap, (ho.block g hne).trans h4, h5, h6.only hr ho⟩
/-- A reader is kept where the blocks from N on are. -/
theorem Rd.kept {N : Nat} {w w' : World} {g : Nat} {s : St} (h : Rd N w g s) (hk : ∀ k, N ≤ k → k < w.heap.size → w'.heap[k]? = w.heap[k]?) : Rd N w' g s := by
  have hl := h.lt
  obtain ⟨h1, h2, h3, A, cap, h4, h5, h6⟩ := h
  exact ⟨h1, h2, h3, A, cap, (hk g h1 hl).trans h4, h5, h6.kept hk⟩
theorem Rd.below {N B : Nat} {w w' : World} {g : Nat} {s : St} (h : Rd N w g s) (hb : Below B w w') (hB : w.heap.size ≤ B) : Rd N w' g s :=
  h.kept fun k _ hk => hb.block k (by omega)
theorem Rd.drew {N : Nat} {w : World} {g : Nat} {s : St} (h : Rd N w g s) : Rd N w.drew g s := h
/-- What the walk reads of a reader. -/
theorem Rd.cells {N : Nat} {w : World} {g : Nat} {s : St} (h : Rd N w g s) : ∃ A cap, w.cell? ⟨g, 0, none⟩ = some (.slice A s.1.length cap) ∧ w.cell? ⟨g, 1, none⟩ = some (.bool s.2) ∧ w.frozen? ⟨g, 0, none⟩ = false ∧ w.frozen? ⟨g, 1, none⟩ = false ∧ s.1.length ≤ cap ∧ BsN N w A s.1 := by
  obtain ⟨_, _, _, A, cap, h4, h5, h6⟩ := h
  refine ⟨A, cap, ?_, ?_, ?_, ?_, h5, h6⟩
  · rw [cell_of_row w g 0 _ _ _ h4]; rfl
  · rw [cell_of_row w g 1 _ _ _ h4]; rfl
  · simp [World.frozen?, h4]
  · simp [World.frozen?, h4]
theorem Rd.len {N : Nat} {w : World} {g : Nat} {s : St} (h : Rd N w g s) : s.1.length ≤ 140737488355328 := h.2.2.1
theorem Rd.dead {N : Nat} {w : World} {g : Nat} {s : St} (h : Rd N w g s) (hb : s.2 = true) : s.1 = [] := h.2.1 hb
/-- The first field is written. -/
theorem Rd.cut {N : Nat} {w : World} {g : Nat} {s : St} (h : Rd N w g s) {A : Option Addr} {L : List UInt8} {cap : Nat} (hl : L.length ≤ s.1.length) (hlc : L.length ≤ cap) (hB : BsN N w A L) : Rd N (w.setCell ⟨g, 0, none⟩ (.slice A L.length cap)) g (L, s.2) := by
  have hr := h
  obtain ⟨h1, h2, h3, A0, cap0, h4, h5, h6⟩ := h
  refine ⟨h1, fun hb => ?_, Nat.le_trans hl h3, A, cap, ?_, hlc, hB.only hr ((Only.refl g w).setCell 0 _)⟩
  · have := h2 hb
    rw [this] at hl
    exact List.eq_nil_of_length_eq_zero (Nat.le_zero.1 hl)
  · rw [heap_setCell_same w g 0 _ _ _ h4]; rfl
theorem Rd.fail {N : Nat} {w : World} {g : Nat} {s : St} (h : Rd N w g s) : Rd N ((w.setCell ⟨g, 0, none⟩ (.slice none 0 0)).setCell ⟨g, 1, none⟩ (.bool true)) g ([], true) := by
  obtain ⟨h1, h2, h3, A0, cap0, h4, h5, h6⟩ := h
  refine ⟨h1, fun _ => rfl, Nat.zero_le _, none, 0, ?_, Nat.le_refl _, BsN.nil _ _ _⟩
  have h7 := heap_setCell_same w g 0 _ _ (.slice none 0 0) h4
  rw [heap_setCell_same _ g 1 _ _ _ h7]; rfl
theorem Rd.made (N : Nat) (w : World) (L : List UInt8) (A : Option Addr) (cap : Nat) (hN : N ≤ w.heap.size) (hl : L.length ≤ 140737488355328) (hlc : L.length ≤ cap) (hB : BsN N w A L) (t : TypeId) (ht : t = 77) :
    Rd N (w.alloc (.cells #[.slice A L.length cap, .bool false] t)) w.heap.size (L, false) := by
  subst ht
  refine ⟨hN, (fun h => by cases h), hl, A, cap, heap_alloc_new w _, hlc, ?_⟩
  exact hB.kept fun k _ hk => Below.heap_alloc _ _ _ hk

/-- What a method leaves: the answer, the reader behind it, and nothing else has turned. -/
def Left (N : Nat) (w : World) (g : Nat) (v : Value) (s : St) (e : Ending) (w' : World) : Prop := e = .returned v ∧ Rd N w' g s ∧ Only g w w'

def Made (w : World) (L : List UInt8) (e : Ending) (w' : World) : Prop := ∃ g, e = .returned (.pointer (some ⟨g, 0, none⟩)) ∧ Rd w.heap.size w' g (L, false) ∧ Below w.heap.size w w'

theorem own_form {B : Nat} {w : World} {v : Value} {L : List UInt8} (h : w.ownsRow B 5 1 v (0 + L.length) ([] ++ Lib.byteCells L)) : ∃ A cap, v = .slice A L.length cap ∧ w.ownsRow B 5 1 (.slice A L.length cap) L.length (Lib.byteCells L) := by
  rw [Nat.zero_add, List.nil_append] at h
  obtain ⟨A, cap, rfl, _⟩ := bs_own h
  exact ⟨A, cap, rfl, h⟩

set_option maxHeartbeats 400000 in
theorem new_any (A : Option Addr) (L : List UInt8) (cap : Nat) (w : World) (hl : L.length ≤ 140737488355328) (hB : Bs w A L) (hcap : A = none → cap = 0) :
    Calls Tryz.prog 20 #[.slice A L.length cap] w (Made w L) := by
  obtain ⟨i0, hi, hz0, hz1, hz2⟩ := info_parts (show (Tryz.prog.info? 5).map (fun i => (i.zero, i.size, i.bytes)) = some (some (.int .u8 0), 1, 1) by kernel_rfl)
  cases A with
  | none =>
    obtain rfl := hcap rfl
    have h0 : L = [] := by
      cases L with
      | nil => rfl
      | cons c L => obtain ⟨b, off, e, _⟩ := hB (by simp); cases e
    subst h0
    go_enter Tryz.func20, Tryz.ntmps20
    go_wp2_with (at_builtin; refine wpList_append_own_none rfl (.const (.slice none 0 0)) (.tmp 3) _ rfl w.heap.size 5 i0 1 Tryz.underlying35 hi (.slice none 0 0) 0 [] rfl (World.ownsRow_nil _ _ _ _) rfl ?_)
    go_ret
    exact ⟨_, rfl, Rd.made _ w [] none 0 (Nat.le_refl _) (by simp) (Nat.le_refl _) (BsN.nil _ _ _) _ rfl, (Below.refl _ _).alloc (Nat.le_refl _) _⟩
  | some ad =>
    have hc := bs_cells hB
    have ho := bytes_one L
    have HC := Lib.hid hc
    have HO := Lib.hid ho
    clear hc ho hB hcap
    go_enter Tryz.func20, Tryz.ntmps20
    go_wp2_with (at_builtin; refine wpList_append_own _ rfl (.const (.slice none 0 0)) (.tmp 3) _ rfl w.heap.size 5 i0 _ 1 1 Tryz.underlying35 hi hz0 hz1 hz2 rfl (by omega) (.slice none 0 0) 0 [] rfl (World.ownsRow_nil _ _ _ _) ad L.length cap (Lib.byteCells L) rfl (by rw [Lib.byteCells_length]; omega) HC.out HO.out (by unfold maxLen; omega) (by omega) (Nat.le_refl _) ?_; intro v1 w1 hown0 hg1 _; obtain ⟨A1, cap1, rfl, hown1⟩ := own_form hown0; clear hown0)
    have hb1 : Below w.heap.size w w1 := (Below.refl _ _).grown hg1 (Nat.le_refl _) (by simp [Value.ownBlock])
    have hlc : L.length ≤ cap1 := by
      rcases hown1.2 with ⟨e, h⟩ | ⟨g, c, cur, e, _, _, h, _⟩
      · omega
      · injection e with _ _ e; omega
    go_ret
    exact ⟨_, rfl, Rd.made _ w1 L A1 cap1 hb1.size hl hlc (BsN.of_own hown1) _ rfl, hb1.alloc hb1.size _⟩
end
/- Contracts of Reader's Left, Ok, End, Fail. -/
section
open Go.RowKit

theorem left_any (N g : Nat) (s : St) (w : World) (h : Rd N w g s) :
    Calls Tryz.prog 27 #[.pointer (some ⟨g, 0, none⟩)] w fun e w' => e = .returned (.int .i64 (s.1.length : Int)) ∧ w = w' := by
  obtain ⟨A, cap, c0, c1, f0, f1, _, _⟩ := h.cells
  have hl := h.len
  clear h
  go_enter Tryz.func27, Tryz.ntmps27
  go_wp2
  go_ret
  exact ⟨rfl, rfl⟩
theorem ok_any (N g : Nat) (s : St) (w : World) (h : Rd N w g s) :
    Calls Tryz.prog 26 #[.pointer (some ⟨g, 0, none⟩)] w fun e w' => e = .returned (.bool (!s.2)) ∧ w = w' := by
  obtain ⟨A, cap, c0, c1, f0, f1, _, _⟩ := h.cells
  clear h
  generalize s.2 = b at *
  go_enter Tryz.func26, Tryz.ntmps26
  go_wp2
  go_ret
  exact ⟨rfl, rfl⟩
theorem fail_any (N g : Nat) (s : St) (w : World) (h : Rd N w g s) :
    Calls Tryz.prog 40 #[.pointer (some ⟨g, 0, none⟩)] w (Left N w g (.tuple #[]) ([], true)) := by
  obtain ⟨A, cap, c0, c1, f0, f1, _, _⟩ := h.cells
  have HR := Lib.hid h
  clear h
  go_enter Tryz.func40, Tryz.ntmps40
  go_wp2
  go_end0
  exact ⟨rfl, HR.out.fail, ((Only.refl _ _).setCell 0 _).setCell 1 _⟩
theorem end_any (N g : Nat) (s : St) (w : World) (h : Rd N w g s) :
    Calls Tryz.prog 23 #[.pointer (some ⟨g, 0, none⟩)] w fun e w' => e = .returned (.bool (!s.2 && s.1.length == 0)) ∧ w = w' := by
  have hok := ok_any N g s w h
  have hle := left_any N g s w h
  have hl := h.len
  clear h
  generalize s.1.length = n at *
  cases hb : s.2
  · rw [hb] at hok
    clear hb
    by_cases hn : n = 0
    · subst hn
      go_enter Tryz.func23, Tryz.ntmps23
      go_wp2_with fail
      refine hok.mono ?_
      rintro e w' ⟨rfl, rfl⟩
      go_wp2_with fail
      refine hle.mono ?_
      rintro e w' ⟨rfl, rfl⟩
      go_wp2
      go_ret
      exact ⟨rfl, rfl⟩
    · have hn2 : (n == 0) = false := by simpa using hn
      have hn3 : ((n : Int) == 0) = false := by simp; omega
      go_enter Tryz.func23, Tryz.ntmps23
      go_wp2_with fail
      refine hok.mono ?_
      rintro e w' ⟨rfl, rfl⟩
      go_wp2_with fail
      refine hle.mono ?_
      rintro e w' ⟨rfl, rfl⟩
      go_wp2
      go_ret
      rw [hn2]
      exact ⟨rfl, rfl⟩
  · rw [hb] at hok
    clear hb
    go_enter Tryz.func23, Tryz.ntmps23
    go_wp2_with fail
    refine hok.mono ?_
    rintro e w' ⟨rfl, rfl⟩
    go_wp2
    go_ret
    exact ⟨rfl, rfl⟩
end
/- Contract of Reader's Bool. -/
section
open Go.RowKit

/-- At the label: the frame, whatever its slots hold but the first. -/
def AtBool (g : Nat) (w : World) (a : Act) (w' : World) : Prop := w' = w ∧ ∃ u1 u2 u3 u4 u5 u6 u7 u8 u9 u10 u11 u12 u13 u14 u15 u16 u17 u18 u19 u20 u21 u22 u23 u24 u25 u26 u27 u28 u29 u30 u31 u32 u33 u34 u35 u36 : Value, a = { tmps := #[.pointer (some ⟨g, 0, none⟩), u1, u2, u3, u4, u5, u6, u7, u8, u9, u10, u11, u12, u13, u14, u15, u16, u17, u18, u19, u20, u21, u22, u23, u24, u25, u26, u27, u28, u29, u30, u31, u32, u33, u34, u35, u36], defers := [] }
theorem AtBool.mk {g : Nat} {w : World} {u1 u2 u3 u4 u5 u6 u7 u8 u9 u10 u11 u12 u13 u14 u15 u16 u17 u18 u19 u20 u21 u22 u23 u24 u25 u26 u27 u28 u29 u30 u31 u32 u33 u34 u35 u36 : Value} : AtBool g w { tmps := #[.pointer (some ⟨g, 0, none⟩), u1, u2, u3, u4, u5, u6, u7, u8, u9, u10, u11, u12, u13, u14, u15, u16, u17, u18, u19, u20, u21, u22, u23, u24, u25, u26, u27, u28, u29, u30, u31, u32, u33, u34, u35, u36], defers := [] } w := ⟨rfl, _, _, _, _, _, _, _, _, _, _, _, _, _, _, _, _, _, _, _, _, _, _, _, _, _, _, _, _, _, _, _, _, _, _, _, _, rfl⟩

theorem stB_nil (b : Bool) : stB ([], b) = (false, ([], true)) := rfl
theorem stB_bad {c : UInt8} {R : List UInt8} {b : Bool} (h : 1 < c.toNat) : stB (c :: R, b) = (false, ([], true)) := if_pos h
theorem stB_good {c : UInt8} {R : List UInt8} {b : Bool} (h : ¬ 1 < c.toNat) : stB (c :: R, b) = (c.toNat == 1, (R, b)) := if_neg h
end
/- Contract of Reader's Int. -/
section
open Go.RowKit

/-- At the label: the frame, whatever its slots hold but the first. -/
def AtInt (g : Nat) (w : World) (a : Act) (w' : World) : Prop := w' = w ∧ ∃ u1 u2 u3 u4 u5 u6 u7 u8 u9 u10 u11 u12 u13 u14 u15 u16 u17 u18 u19 u20 u21 u22 u23 u24 u25 u26 u27 u28 u29 u30 u31 u32 u33 u34 u35 u36 u37 u38 u39 u40 u41 u42 u43 u44 u45 u46 u47 u48 u49 u50 u51 u52 : Value, a = { tmps := #[.pointer (some ⟨g, 0, none⟩), u1, u2, u3, u4, u5, u6, u7, u8, u9, u10, u11, u12, u13, u14, u15, u16, u17, u18, u19, u20, u21, u22, u23, u24, u25, u26, u27, u28, u29, u30, u31, u32, u33, u34, u35, u36, u37, u38, u39, u40, u41, u42, u43, u44, u45, u46, u47, u48, u49, u50, u51, u52], defers := [] }
theorem AtInt.mk {g : Nat} {w : World} {u1 u2 u3 u4 u5 u6 u7 u8 u9 u10 u11 u12 u13 u14 u15 u16 u17 u18 u19 u20 u21 u22 u23 u24 u25 u26 u27 u28 u29 u30 u31 u32 u33 u34 u35 u36 u37 u38 u39 u40 u41 u42 u43 u44 u45 u46 u47 u48 u49 u50 u51 u52 : Value} : AtInt g w { tmps := #[.pointer (some ⟨g, 0, none⟩), u1, u2, u3, u4, u5, u6, u7, u8, u9, u10, u11, u12, u13, u14, u15, u16, u17, u18, u19, u20, u21, u22, u23, u24, u25, u26, u27, u28, u29, u30, u31, u32, u33, u34, u35, u36, u37, u38, u39, u40, u41, u42, u43, u44, u45, u46, u47, u48, u49, u50, u51, u52], defers := [] } w := ⟨rfl, _, _, _, _, _, _, _, _, _, _, _, _, _, _, _, _, _, _, _, _, _, _, _, _, _, _, _, _, _, _, _, _, _, _, _, _, _, _, _, _, _, _, _, _, _, _, _, _, _, _, _, _, rfl⟩

theorem and_u8 (c : UInt8) : bits .and .u8 (c.toNat : Int) 127 = ((c.toNat % 128 : Nat) : Int) := by
  have hc := c.toNat_lt
  have h2 : bits .and .u8 (c.toNat : Int) 127 = ((c.toNat &&& 127 : Nat) : Int) := u8_and_nat c.toNat 127 (by omega) (by decide)
  rw [h2, show (127 : Nat) = 2 ^ 7 - 1 by rfl, Nat.and_two_pow_sub_one_eq_mod]

/-- k bytes were read, they made x. -/
def IntRel (L : List UInt8) (k x : Nat) : Prop := k ≤ L.length ∧ k ≤ 9 ∧ rdU 0 0 L = rdU k x (L.drop k) ∧ x < 2 ^ (7 * k)

theorem room_pow {k m : Nat} (h : k ≤ 8 ∧ m < 128 ∨ k = 9 ∧ m ≤ 1) : m * 2 ^ (7 * k) < 18446744073709551616 := by
  rcases h with ⟨hk, hm⟩ | ⟨rfl, hm⟩
  · have hp : 2 ^ (7 * k) ≤ 2 ^ 56 := Nat.pow_le_pow_right (by decide) (by omega)
    have hm2 : m * 2 ^ (7 * k) ≤ 127 * 2 ^ 56 := Nat.mul_le_mul (by omega) hp
    omega
  · simp only [Nat.reduceMul, Nat.reducePow]
    omega
theorem or_shift {k m x : Nat} (hm : m * 2 ^ (7 * k) < 18446744073709551616) (hx : x < 2 ^ (7 * k)) (hx2 : x < 18446744073709551616) :
    bits .or .u64 (x : Int) (IntKind.u64.wrap ((m : Int) * 2 ^ (7 * k))) = ((x + m * 2 ^ (7 * k) : Nat) : Int) := by
  have e : ((m : Int) * 2 ^ (7 * k)) = ((m * 2 ^ (7 * k) : Nat) : Int) := by simp
  have e2 : IntKind.u64.wrap ((m * 2 ^ (7 * k) : Nat) : Int) = ((m * 2 ^ (7 * k) : Nat) : Int) := by
    generalize m * 2 ^ (7 * k) = q at *
    simp only [IntKind.wrap, IntKind.signed, IntKind.bits]
    simp
    omega
  rw [e, e2, u64_or_nat _ _ hx2 hm]
  have h3 : 2 ^ (7 * k) * m + x = 2 ^ (7 * k) * m ||| x := Nat.two_pow_add_eq_or_of_lt hx m
  rw [Nat.or_comm, Nat.mul_comm, ← h3, Nat.add_comm]
theorem pow_63 {k : Nat} (h : k ≤ 9) : 2 ^ (7 * k) ≤ 9223372036854775808 := Nat.le_trans (Nat.pow_le_pow_right (by decide) (show 7 * k ≤ 63 by omega)) (by decide)
theorem wdrop_at {L : List UInt8} {k : Nat} {c : UInt8} (h : k < L.length) (hc : L.getD k 0 = c) : L.drop k = c :: L.drop (k + 1) := by
  rw [List.drop_eq_getElem_cons h, ← hc, List.getD_eq_getElem?_getD, List.getElem?_eq_getElem h]; rfl
section
variable {L : List UInt8} {k x : Nat} {c : UInt8}
theorem rd_more (hlt : k < L.length) (hc : L.getD k 0 = c) (hrd : rdU 0 0 L = rdU k x (L.drop k)) (hx : x < 2 ^ (7 * k)) (hk : k ≤ 8) (hb : 128 ≤ c.toNat) : IntRel L (k + 1) (x + c.toNat % 128 * 2 ^ (7 * k)) := by
  refine ⟨hlt, by omega, ?_, ?_⟩
  · rw [hrd, wdrop_at hlt hc]
    conv => lhs; unfold rdU
    rw [if_neg (by omega), if_pos hb]
  · have h2 : c.toNat % 128 * 2 ^ (7 * k) ≤ 127 * 2 ^ (7 * k) := Nat.mul_le_mul_right _ (by omega)
    rw [pow7]
    omega
theorem rd_wide (hlt : k < L.length) (hc : L.getD k 0 = c) (hrd : rdU 0 0 L = rdU k x (L.drop k)) (h : k = 9 ∧ 1 < c.toNat) : rdU 0 0 L = none := by
  rw [hrd, wdrop_at hlt hc]; unfold rdU; rw [if_pos h]
theorem rd_long (hlt : k < L.length) (hc : L.getD k 0 = c) (hrd : rdU 0 0 L = rdU k x (L.drop k)) (h1 : ¬ (k = 9 ∧ 1 < c.toNat)) (h : 0 < k ∧ c.toNat = 0) : rdU 0 0 L = none := by
  rw [hrd, wdrop_at hlt hc]; unfold rdU; rw [if_neg h1, if_neg (by omega), if_pos h]
theorem rd_done (hlt : k < L.length) (hc : L.getD k 0 = c) (hrd : rdU 0 0 L = rdU k x (L.drop k)) (h1 : ¬ (k = 9 ∧ 1 < c.toNat)) (h2 : ¬ 128 ≤ c.toNat) (h : ¬ (0 < k ∧ c.toNat = 0)) : rdU 0 0 L = some (x + c.toNat % 128 * 2 ^ (7 * k), L.drop (k + 1)) := by
  rw [hrd, wdrop_at hlt hc]; unfold rdU; rw [if_neg h1, if_neg h2, if_neg h]
theorem rd_short (hlt : k = L.length) (hrd : rdU 0 0 L = rdU k x (L.drop k)) : rdU 0 0 L = none := by
  rw [hrd, hlt, List.drop_length]; rfl
end

theorem rdU_lt {L R : List UInt8} {u : Nat} (h : rdU 0 0 L = some (u, R)) : u < 18446744073709551616 := by
  obtain ⟨x, _, e2, _, e4⟩ := rdU_back L 0 0 u R (by decide) h
  have e5 : u = x := by rw [e2]; simp
  subst e5
  simpa using e4

theorem st_none {L : List UInt8} {b : Bool} {v : Int} {s2 : St} (h : rdU 0 0 L = none) (hst : stI (L, b) = (v, s2)) : v = 0 ∧ s2 = ([], true) := by
  rw [stI_none (s := (L, b)) h] at hst
  injection hst with h1 h2
  exact ⟨h1.symm, h2.symm⟩
theorem st_some {L R : List UInt8} {b : Bool} {u : Nat} {v : Int} {s2 : St} (h : rdU 0 0 L = some (u, R)) (hst : stI (L, b) = (v, s2)) : v = zz u ∧ s2 = (R, b) := by
  rw [stI_some (s := (L, b)) h] at hst
  injection hst with h1 h2
  exact ⟨h1.symm, h2.symm⟩

set_option maxHeartbeats 400000 in
set_option maxRecDepth 100000 in
theorem int_at (N g : Nat) (s s2 : St) (v : Int) (w : World) (h : Rd N w g s) (hst : Hid (stI s = (v, s2))) :
    Calls Tryz.prog 63 #[.pointer (some ⟨g, 0, none⟩)] w (Left N w g (.int .i64 v) s2) := by
  obtain ⟨A, cap, c0, c1, f0, f1, hlc, hB⟩ := h.cells
  have hf := fail_any N g s w h
  have hl := h.len
  obtain ⟨L, b⟩ := s
  simp only at *
  have HR := Lib.hid h
  have HB := Lib.hid hB
  clear h hB
  go_enter Tryz.func63, Tryz.ntmps63
  go_wp2_with fail
  refine wp_scope_jumps 0 (fun a' w' => AtInt g w a' w' ∧ rdU 0 0 L = none) (fun _ _ => 0) rfl ?_ ?_
  · go_wp2_with fail
    go_loop [3, 11] (fun u i => ∃ k x : Nat, i = .int .i64 k ∧ u = .int .u64 (x : Int) ∧ IntRel L k x) (fun _ i => 9 - (intOf i).toNat)
    case atStart => exact ⟨0, 0, rfl, rfl, Nat.zero_le _, by decide, by simp, by decide⟩
    case round =>
      obtain ⟨k, x, rfl, rfl, hk, hk9, hrd, hx⟩ := hrel
      have hx63 := pow_63 hk9
      by_cases hlt : k < L.length
      · obtain ⟨ab, off, rfl, hN, hc⟩ := HB.out (by omega)
        have hck := hc k hlt
        have hcb := byte_hi (L.getD k 0)
        have hand := and_u8 (L.getD k 0)
        clear hc
        generalize hcc : L.getD k 0 = c at *
        have HCC := Lib.hid hcc
        have HRD := Lib.hid hrd
        have HX := Lib.hid hx
        have HX63 := Lib.hid hx63
        clear hcc hrd hx hx63
        by_cases hb1 : k = 9 ∧ 1 < c.toNat
        · have HN := Lib.hid (rd_wide hlt HCC.out HRD.out hb1)
          obtain ⟨rfl, hb1⟩ := hb1
          have e2 : decide ((1 : Int) < (c.toNat : Int)) = true := by simp; omega
          go_wp2_with fail
          go_step3
          exact ⟨rfl, AtInt.mk, HN.out⟩
        · by_cases hb2 : 128 ≤ c.toNat
          · have hk8 : k ≤ 8 := by omega
            have e1 : ((k : Int) == 9) = false := by simp; omega
            have e2 : decide ((128 : Int) ≤ (c.toNat : Int)) = true := by simp; omega
            have HM := Lib.hid (rd_more hlt HCC.out HRD.out HX.out hk8 hb2)
            have HO := Lib.hid (or_shift (room_pow (k := k) (m := c.toNat % 128) (by omega)) HX.out (Nat.lt_of_lt_of_le HX.out (Nat.le_trans HX63.out (by decide))))
            generalize hq : c.toNat % 128 = m at *
            have hm : m < 128 := by omega
            clear hb1 hq
            go_wp2_with fail
            go_round
            case rel => exact ⟨k + 1, _, by go_num, by rw [HO.out], HM.out⟩
            case measure => simp [intOf]; omega
          · have e2 : decide ((128 : Int) ≤ (c.toNat : Int)) = false := by simp; omega
            by_cases hb3 : 0 < k ∧ c.toNat = 0
            · have HN := Lib.hid (rd_long hlt HCC.out HRD.out hb1 hb3)
              obtain ⟨hk0, hc0⟩ := hb3
              have e4 : ((c.toNat : Int) == 0) = true := by simp; omega
              have e5 : decide ((1 : Int) < (c.toNat : Int)) = false := by simp; omega
              clear hb1 hb2
              generalize hq : c.toNat % 128 = m at *
              have hm : m < 128 := by omega
              clear hq hc0
              cases e1 : ((k : Int) == 9)
              all_goals
                go_wp2_with fail
                go_step3
                exact ⟨rfl, AtInt.mk, HN.out⟩
            · have HN := Lib.hid (rd_done hlt HCC.out HRD.out hb1 hb2 hb3)
              have hpow := room_pow (k := k) (m := c.toNat % 128) (by omega)
              have ho := or_shift hpow HX.out (Nat.lt_of_lt_of_le HX.out (Nat.le_trans HX63.out (by decide)))
              obtain ⟨u0, hu0⟩ : ∃ y, y = x + c.toNat % 128 * 2 ^ (7 * k) := ⟨_, rfl⟩
              have hn0 := HN.out
              rw [← hu0] at hn0 ho
              have hu := rdU_lt hn0
              have HVS := Lib.hid (st_some hn0 hst.out)
              clear hst
              have hcut := BsN.drop HB.out (k + 1) cap hlc
              have hdl : (L.drop (k + 1)).length = L.length - (k + 1) := List.length_drop
              have hsg := fun w => signed_any u0 w hu
              have hcap : (cap = k + 1 ∧ L.length = k + 1) ∨ ¬ cap = k + 1 := by omega
              have hways : (((k : Int) == 9) = true ∧ decide ((1 : Int) < (c.toNat : Int)) = false ∧ 0 < k ∧ ((c.toNat : Int) == 0) = false) ∨
                  (((k : Int) == 9) = false ∧ True ∧ 0 < k ∧ ((c.toNat : Int) == 0) = false) ∨ (((k : Int) == 9) = false ∧ True ∧ ¬ 0 < k ∧ True) := by
                by_cases h9 : k = 9
                · exact .inl ⟨by simp; omega, by simp; omega, by omega, by simp; omega⟩
                · by_cases h0 : 0 < k
                  · exact .inr (.inl ⟨by simp; omega, trivial, h0, by simp; omega⟩)
                  · exact .inr (.inr ⟨by simp; omega, trivial, h0, trivial⟩)
              have hlk : L.length - (k + 1) ≤ L.length := by omega
              have hck2 : L.length - (k + 1) ≤ cap - (k + 1) := by omega
              clear hb1 hb2 hb3 HN hn0 hpow
              generalize hq : c.toNat % 128 = m at *
              have hm : m < 128 := by omega
              clear hq hu0
              rcases hcap with ⟨hcap, hL1⟩ | hcap
              · have hdn : L.drop (k + 1) = [] := List.eq_nil_of_length_eq_zero (by omega)
                rw [hdn] at HVS
                clear hcut hdl hdn hck2 hlk
                rcases hways with ⟨e3, e4, e5, e6⟩ | ⟨e3, e4, e5, e6⟩ | ⟨e3, e4, e5, e6⟩
                all_goals
                  go_wp2_with fail
                  refine (hsg _).mono ?_
                  rintro e w1 ⟨rfl, rfl⟩
                  go_wp2_with fail
                  simp only [Exit.jump]
                  go_ret
                  exact ⟨by rw [HVS.out.1]; rfl, by rw [HVS.out.2]; exact HR.out.cut (L := []) (by simp) (by simp) (BsN.nil _ _ _), (Only.refl _ _).setCell 0 _⟩
              · rw [if_neg hcap] at hcut
                have HCUT := Lib.hid hcut
                have HDL := Lib.hid hdl
                have HLK := Lib.hid hlk
                have HCK := Lib.hid hck2
                clear hcut hdl hlk hck2
                rcases hways with ⟨e3, e4, e5, e6⟩ | ⟨e3, e4, e5, e6⟩ | ⟨e3, e4, e5, e6⟩
                all_goals
                  go_wp2_with fail
                  refine (hsg _).mono ?_
                  rintro e w1 ⟨rfl, rfl⟩
                  go_wp2_with fail
                  simp only [Exit.jump]
                  go_ret
                  exact ⟨by rw [HVS.out.1]; rfl, by rw [HVS.out.2, ← HDL.out]; exact HR.out.cut (by rw [HDL.out]; exact HLK.out) (by rw [HDL.out]; exact HCK.out) HCUT.out, (Only.refl _ _).setCell 0 _⟩
      · have HN := Lib.hid (rd_short (show k = L.length by omega) hrd)
        obtain rfl : k = L.length := by omega
        clear hrd hx hx63
        obtain HVS := Lib.hid (st_none HN.out hst.out)
        clear hst
        go_wp2_with fail
        go_step3
        go_wp2_with fail
        refine hf.mono ?_
        rintro e w1 ⟨rfl, hR, hO⟩
        go_wp2_with fail
        simp only [Exit.jump]
        go_ret
        exact ⟨by rw [HVS.out.1]; rfl, by rw [HVS.out.2]; exact hR, hO⟩
  · rintro a' w' ⟨⟨rfl, u1, u2, u3, u4, u5, u6, u7, u8, u9, u10, u11, u12, u13, u14, u15, u16, u17, u18, u19, u20, u21, u22, u23, u24, u25, u26, u27, u28, u29, u30, u31, u32, u33, u34, u35, u36, u37, u38, u39, u40, u41, u42, u43, u44, u45, u46, u47, u48, u49, u50, u51, u52, rfl⟩, hn⟩
    have HVS := Lib.hid (st_none hn hst.out)
    clear hn
    go_wp2_with fail
    refine hf.mono ?_
    rintro e w1 ⟨rfl, hR, hO⟩
    go_wp2_with fail
    simp only [Exit.jump]
    go_ret
    exact ⟨by rw [HVS.out.1]; rfl, by rw [HVS.out.2]; exact hR, hO⟩
theorem int_any (N g : Nat) (s : St) (w : World) (h : Rd N w g s) :
    Calls Tryz.prog 63 #[.pointer (some ⟨g, 0, none⟩)] w (Left N w g (.int .i64 (stI s).1) (stI s).2) :=
  int_at N g s (stI s).2 (stI s).1 w h (Lib.hid rfl)
end
/- Contracts of Reader's Count and Text. -/
section
open Go.RowKit

theorem stC_yes {most : Int} {s : St} (h : 0 ≤ (stI s).1 ∧ (stI s).1 ≤ most ∧ (stI s).1 ≤ ((stI s).2.1.length : Int)) : stC most s = stI s := by
  unfold stC okC; rw [if_pos (decide_eq_true h)]
theorem stC_no {most : Int} {s : St} (h : ¬ (0 ≤ (stI s).1 ∧ (stI s).1 ≤ most ∧ (stI s).1 ≤ ((stI s).2.1.length : Int))) : stC most s = (0, ([], true)) := by
  unfold stC okC; rw [decide_eq_false h]; rfl
theorem stC_lo (most : Int) (s : St) : 0 ≤ (stC most s).1 ∧ (stC most s).1 ≤ ((stC most s).2.1.length : Int) := by
  by_cases h : 0 ≤ (stI s).1 ∧ (stI s).1 ≤ most ∧ (stI s).1 ≤ ((stI s).2.1.length : Int)
  · rw [stC_yes h]; exact ⟨h.1, h.2.2⟩
  · rw [stC_no h]; exact ⟨Int.le_refl _, by simp⟩

set_option maxHeartbeats 400000 in
theorem rcount_any (N g : Nat) (s : St) (most : Int) (w : World) (h : Rd N w g s) :
    Calls Tryz.prog 62 #[.pointer (some ⟨g, 0, none⟩), .int .i64 most] w (Left N w g (.int .i64 (stC most s).1) (stC most s).2) := by
  have hi := int_any N g s w h
  have hlo := stI_lo s
  have hyes := fun h => stC_yes (most := most) (s := s) h
  have hno := fun h => stC_no (most := most) (s := s) h
  obtain ⟨n, hn⟩ : ∃ n, n = (stI s).1 := ⟨_, rfl⟩
  obtain ⟨s1, hs1⟩ : ∃ s1, s1 = (stI s).2 := ⟨_, rfl⟩
  have hp : stI s = (n, s1) := by rw [hn, hs1]
  rw [hp] at hi hlo hyes hno
  simp only at hi hlo hyes hno
  clear hn hs1 hp h
  obtain ⟨hlo1, hlo2⟩ := hlo
  by_cases hok : 0 ≤ n ∧ n ≤ most ∧ n ≤ (s1.1.length : Int)
  · have hy := hyes hok
    clear hyes hno
    rw [hy]
    obtain ⟨ho1, ho2, ho3⟩ := hok
    clear hy
    go_enter Tryz.func62, Tryz.ntmps62
    go_wp2_with fail
    refine hi.mono ?_
    rintro e w1 ⟨rfl, hR, hO⟩
    obtain ⟨A, cap, c0, c1, f0, f1, hlc, _⟩ := hR.cells
    have hl := hR.len
    clear hi
    go_wp2_with fail
    go_ret
    exact ⟨rfl, hR, hO⟩
  · have hy := hno hok
    clear hyes hno
    rw [hy]
    clear hy
    have hw : n < 0 ∨ (0 ≤ n ∧ most < n) ∨ (0 ≤ n ∧ n ≤ most ∧ (s1.1.length : Int) < n) := by omega
    clear hok
    rcases hw with h1 | ⟨h1, h2⟩ | ⟨h1, h2, h3⟩
    all_goals
      go_enter Tryz.func62, Tryz.ntmps62
      go_wp2_with fail
      refine hi.mono ?_
      rintro e w1 ⟨rfl, hR, hO⟩
      obtain ⟨A, cap, c0, c1, f0, f1, hlc, _⟩ := hR.cells
      have hl := hR.len
      have hf := fail_any N g s1 w1 hR
      clear hi
      go_wp2_with fail
      refine hf.mono ?_
      rintro e w2 ⟨rfl, hR2, hO2⟩
      go_wp2_with fail
      go_ret
      exact ⟨rfl, hR2, hO.trans hO2⟩

set_option maxHeartbeats 400000 in
theorem wtext_any (N g : Nat) (s : St) (most : Int) (w : World) (h : Rd N w g s) :
    Calls Tryz.prog 80 #[.pointer (some ⟨g, 0, none⟩), .int .i64 most] w (Left N w g (.string ⟨(stT most s).1.toArray⟩) (stT most s).2) := by
  have hc := rcount_any N g s most w h
  have hlo := stC_lo most s
  unfold stT
  obtain ⟨n, hn⟩ : ∃ n, n = (stC most s).1 := ⟨_, rfl⟩
  obtain ⟨s1, hs1⟩ : ∃ s1, s1 = (stC most s).2 := ⟨_, rfl⟩
  rw [← hn, ← hs1] at hc hlo ⊢
  clear hn hs1 h
  obtain ⟨k, rfl⟩ : ∃ k : Nat, n = (k : Int) := ⟨n.toNat, by omega⟩
  obtain ⟨L, b⟩ := s1
  simp only [Int.toNat_natCast] at *
  obtain ⟨_, hk⟩ := hlo
  have hkl : k ≤ L.length := by omega
  clear hk
  go_enter Tryz.func80, Tryz.ntmps80
  go_wp2_with fail
  refine hc.mono ?_
  rintro e w1 ⟨rfl, hR, hO⟩
  obtain ⟨A, cap, c0, c1, f0, f1, hlc, hB⟩ := hR.cells
  have hl : L.length ≤ 140737488355328 := hR.len
  have hlc2 : L.length ≤ cap := hlc
  have c02 : w1.cell? ⟨g, 0, none⟩ = some (.slice A L.length cap) := c0
  have hB2 : BsN N w1 A L := hB
  clear hc hlc c0 hB
  have htk : (L.take k).length = k := by rw [List.length_take]; omega
  have hdl : (L.drop k).length = L.length - k := List.length_drop
  have ks := run_str_of (P := Tryz.prog) (w := w1) 35 9 5 cap Tryz.underlying35 Tryz.underlying5 Tryz.underlying9 (bs_take hB2.bs k)
  rw [htk] at ks
  have HCUT := Lib.hid (BsN.drop hB2 k cap hlc2)
  have HDL := Lib.hid hdl
  have hkc : k ≤ cap := by omega
  have HR := Lib.hid hR
  have HO := Lib.hid hO
  clear hB2 hdl htk hR hO
  generalize L.take k = T at *
  by_cases hck : cap = k
  · have hk2 : k = L.length := by omega
    subst hck
    have HD := Lib.hid (show L.drop cap = [] by rw [hk2]; exact List.drop_length)
    have HK := Lib.hid hk2
    clear hk2
    go_wp2_with fail
    go_ret
    exact ⟨rfl, by rw [HD.out]; exact HR.out.cut (L := []) (by simp) (by simp) (BsN.nil _ _ _), HO.out.trans ((Only.refl _ _).setCell 0 _)⟩
  · have HH := HCUT.out
    rw [if_neg hck] at HH
    have HC := Lib.hid HH
    clear HCUT HH
    go_wp2_with fail
    go_ret
    exact ⟨rfl, by rw [← HDL.out]; exact HR.out.cut (by rw [HDL.out]; simp) (by rw [HDL.out]; omega) HC.out, HO.out.trans ((Only.refl _ _).setCell 0 _)⟩
end
end Go.Proofs.YtindkpfmflcibaaGreatDoor
