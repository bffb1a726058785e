/- The document's own lexer in memory: its text, its pieces, which one is next. The contracts of its class and here. -/
import Derived.Test.YtbeeeakcjeibgaaDoorLexW
import Derived.Test.YtbeeeakcjeibgaaDoorRefSimple
import Derived.Test.YtbeeeakcjeibgaaDoorRefClass
import Derived.Deep.QuietTactic
import Derived.BigQuiet
namespace Go.Proofs.YtbeeeakcjeibgaaDoor
open Go.RowKit

/-- Of what there was one block alone may have turned. -/
structure Away (g : Nat) (w w' : World) : Prop where
  os : w'.os = w.os
  tape : w'.tape = w.tape
  output : w'.output = w.output
  size : w.heap.size ≤ w'.heap.size
  block : ∀ k, k < w.heap.size → k ≠ g → w'.heap[k]? = w.heap[k]?
theorem Away.refl (g : Nat) (w : World) : Away g w w := ⟨rfl, rfl, rfl, Nat.le_refl _, fun _ _ _ => rfl⟩
theorem Away.trans {g : Nat} {a b c : World} (h : Away g a b) (k : Away g b c) : Away g a c :=
  ⟨k.os.trans h.os, k.tape.trans h.tape, k.output.trans h.output, Nat.le_trans h.size k.size, fun i hi hn => (k.block i (Nat.lt_of_lt_of_le hi h.size) hn).trans (h.block i hi hn)⟩
theorem Away.of {g : Nat} {w w' : World} (h : Below w.heap.size w w') : Away g w w' := ⟨h.os, h.tape, h.output, h.size, fun k hk _ => h.block k hk⟩
theorem Away.below {g B : Nat} {w w' : World} (h : Away g w w') (hB : B ≤ g) (hs : B ≤ w.heap.size) : Below B w w' := ⟨h.os, h.tape, h.output, h.size, fun k hk => h.block k (by omega) (by omega)⟩
theorem Away.next {g : Nat} {a w w' : World} (h : Away g a w) (hb : Below w.heap.size w w') : Away g a w' := h.trans (.of hb)
theorem Away.alloc {g : Nat} {a w : World} (h : Away g a w) (o : Obj) : Away g a (w.alloc o) := h.next ((Below.refl _ _).alloc (Nat.le_refl _) o)
theorem Away.set {g : Nat} {a w : World} (h : Away g a w) (i : Nat) (u : Value) : Away g a (w.setCell ⟨g, i, none⟩ u) :=
  h.trans ⟨rfl, rfl, rfl, by simp [World.setCell], fun k _ hn => Below.heap_setCell _ _ _ _ hn⟩
theorem Away.put {g b : Nat} {a w : World} (h : Away g a w) (hb : a.heap.size ≤ b) (i : Nat) (u : Value) : Away g a (w.setCell ⟨b, i, none⟩ u) :=
  ⟨h.os, h.tape, h.output, by simpa [World.setCell] using h.size, fun k hk hn => (Below.heap_setCell _ _ _ _ (by simp only; omega)).trans (h.block k hk hn)⟩
theorem Away.cell {g : Nat} {w w' : World} (h : Away g w w') {p : Addr} (hp : p.block < w.heap.size) (hn : p.block ≠ g) : w'.cell? p = w.cell? p := World.cell?_of_block (w := w) (h.block p.block hp hn)
theorem Away.frozen {g : Nat} {w w' : World} (h : Away g w w') {p : Addr} (hp : p.block < w.heap.size) (hn : p.block ≠ g) : w'.frozen? p = w.frozen? p := World.frozen?_of_block (w := w) (h.block p.block hp hn)
theorem Four.away {w w' : World} {b g : Nat} {a1 b1 c1 d1 : Value} (h : Four w b a1 b1 c1 d1) (hb : Away g w w') (hn : b ≠ g) : Four w' b a1 b1 c1 d1 :=
  ⟨Nat.lt_of_lt_of_le h.lt hb.size, (hb.cell (p := ⟨b, 0, none⟩) h.lt hn).trans h.c0, (hb.cell (p := ⟨b, 1, none⟩) h.lt hn).trans h.c1, (hb.cell (p := ⟨b, 2, none⟩) h.lt hn).trans h.c2, (hb.cell (p := ⟨b, 3, none⟩) h.lt hn).trans h.c3,
    (hb.frozen (p := ⟨b, 0, none⟩) h.lt hn).trans h.f0, (hb.frozen (p := ⟨b, 1, none⟩) h.lt hn).trans h.f1, (hb.frozen (p := ⟨b, 2, none⟩) h.lt hn).trans h.f2, (hb.frozen (p := ⟨b, 3, none⟩) h.lt hn).trans h.f3⟩

/-- Where the pieces lie. -/
def PRow (w : World) (g : Nat) (ao : Option Addr) (P : List Pc) : Prop := 0 < P.length → ∃ h, ao = some ⟨h, 0, none⟩ ∧ h ≠ g ∧ h < w.heap.size ∧ ∀ k x, P[k]? = some x →
  w.cell? ⟨h, k * 4, none⟩ = some (.int .i64 ((flat (P.take k)).length : Int)) ∧ w.cell? ⟨h, k * 4 + 1, none⟩ = some (.int .i64 (x.2.length : Int)) ∧ w.cell? ⟨h, k * 4 + 2, none⟩ = some (.int .i32 (x.1 : Int)) ∧ w.cell? ⟨h, k * 4 + 3, none⟩ = some (.bool (decide (bad x)))
theorem PRow.away {w w' : World} {g : Nat} {ao : Option Addr} {P : List Pc} (h : PRow w g ao P) (hb : Away g w w') : PRow w' g ao P := fun h0 => by
  obtain ⟨b, e, hn, hl, hc⟩ := h h0
  refine ⟨b, e, hn, Nat.lt_of_lt_of_le hl hb.size, fun k x hx => ?_⟩
  obtain ⟨h1, h2, h3, h4⟩ := hc k x hx
  exact ⟨(hb.cell (p := ⟨b, k * 4, none⟩) hl hn).trans h1, (hb.cell (p := ⟨b, k * 4 + 1, none⟩) hl hn).trans h2, (hb.cell (p := ⟨b, k * 4 + 2, none⟩) hl hn).trans h3, (hb.cell (p := ⟨b, k * 4 + 3, none⟩) hl hn).trans h4⟩
/-- The lexer lies in block g. -/
def LR (w : World) (g : Nat) (t : ByteArray) (P : List Pc) (ao : Option Addr) (cap : Nat) (k : Nat) : Prop :=
  k ≤ P.length ∧ P.length ≤ cap ∧ w.heap[g]? = some (.cells #[.string t, .slice ao P.length cap, .int .i64 (k : Int)] 45 (0, 0)) ∧ PRow w g ao P
/-- The same, on the way from w0: of what there was the lexer's block alone has turned. -/
def LA (w0 w : World) (g : Nat) (t : ByteArray) (P : List Pc) (ao : Option Addr) (cap : Nat) (k : Nat) : Prop :=
  LR w g t P ao cap k ∧ Away g w0 w ∧ g < w0.heap.size ∧ PRow w0 g ao P
section
variable {w0 w w' : World} {g : Nat} {t : ByteArray} {P : List Pc} {ao : Option Addr} {cap k : Nat}
theorem LR.lt (h : LR w g t P ao cap k) : g < w.heap.size := (Array.getElem?_eq_some_iff.1 h.2.2.1).1
theorem LR.le (h : LR w g t P ao cap k) : k ≤ P.length := h.1
theorem LR.later (h : LR w g t P ao cap k) (hb : Below w.heap.size w w') : LR w' g t P ao cap k :=
  ⟨h.1, h.2.1, (hb.block g h.lt).trans h.2.2.1, h.2.2.2.away (.of hb)⟩
theorem LR.cells (h : LR w g t P ao cap k) : w.cell? ⟨g, 0, none⟩ = some (.string t) ∧ w.cell? ⟨g, 1, none⟩ = some (.slice ao P.length cap) ∧ w.cell? ⟨g, 2, none⟩ = some (.int .i64 (k : Int)) ∧ w.frozen? ⟨g, 2, none⟩ = false := by
  obtain ⟨h1, h3, h2, h4⟩ := h
  refine ⟨?_, ?_, ?_, ?_⟩
  · rw [cell_of_row w g 0 _ _ _ h2]; rfl
  · rw [cell_of_row w g 1 _ _ _ h2]; rfl
  · rw [cell_of_row w g 2 _ _ _ h2]; rfl
  · simp [World.frozen?, h2]
theorem LR.set (h : LR w g t P ao cap k) {n : Nat} (hn : n ≤ P.length) : LR (w.setCell ⟨g, 2, none⟩ (.int .i64 (n : Int))) g t P ao cap n := by
  obtain ⟨h1, h3, h2, h4⟩ := h
  exact ⟨hn, h3, by rw [heap_setCell_same w g 2 _ _ _ h2]; rfl, h4.away ((Away.refl g w).set 2 _)⟩
/-- The piece that is next. -/
theorem LR.piece (h : LR w g t P ao cap k) {x : Pc} (hx : P[k]? = some x) : ∃ b, ao = some ⟨b, 0, none⟩ ∧ w.cell? ⟨b, k * 4, none⟩ = some (.int .i64 ((flat (P.take k)).length : Int)) ∧ w.cell? ⟨b, k * 4 + 1, none⟩ = some (.int .i64 (x.2.length : Int)) ∧ w.cell? ⟨b, k * 4 + 2, none⟩ = some (.int .i32 (x.1 : Int)) ∧ w.cell? ⟨b, k * 4 + 3, none⟩ = some (.bool (decide (bad x))) := by
  obtain ⟨b, e, -, -, hc⟩ := h.2.2.2 (Nat.lt_of_le_of_lt (Nat.zero_le _) (List.getElem?_eq_some_iff.1 hx).1)
  exact ⟨b, e, hc k x hx⟩
theorem LA.start (h : LR w g t P ao cap k) : LA w w g t P ao cap k := ⟨h, Away.refl g w, h.lt, h.2.2.2⟩
theorem LA.later (h : LA w0 w g t P ao cap k) (hb : Below w.heap.size w w') : LA w0 w' g t P ao cap k := ⟨h.1.later hb, h.2.1.next hb, h.2.2⟩
theorem LA.alloc (h : LA w0 w g t P ao cap k) (o : Obj) : LA w0 (w.alloc o) g t P ao cap k := h.later ((Below.refl _ _).alloc (Nat.le_refl _) o)
theorem LA.set (h : LA w0 w g t P ao cap k) {n : Nat} (hn : n ≤ P.length) : LA w0 (w.setCell ⟨g, 2, none⟩ (.int .i64 (n : Int))) g t P ao cap n := ⟨h.1.set hn, h.2.1.set 2 _, h.2.2⟩
theorem LA.step (h : LA w0 w g t P ao cap k) {n : Nat} (hR : LR w' g t P ao cap n) (hb : Away g w w') : LA w0 w' g t P ao cap n := ⟨hR, h.2.1.trans hb, h.2.2⟩
theorem LA.put (h : LA w0 w g t P ao cap k) {b : Nat} (hb : w0.heap.size ≤ b) (i : Nat) (u : Value) : LA w0 (w.setCell ⟨b, i, none⟩ u) g t P ao cap k := by
  obtain ⟨⟨h1, h2, h3, -⟩, h5, h6, h7⟩ := h
  have h8 := h5.put hb i u
  exact ⟨⟨h1, h2, (Below.heap_setCell _ _ _ _ (by simp only; omega)).trans h3, h7.away h8⟩, h8, h6, h7⟩
end

theorem still_two (w : World) (a b : Nat) : ∃ n, (w.drewN a).drewN b = w.drewN n := ⟨_, World.drewN_drewN _ _ _⟩
theorem still_three (w : World) (a b c : Nat) : ∃ n, ((w.drewN a).drewN b).drewN c = w.drewN n := by
  rw [World.drewN_drewN, World.drewN_drewN]; exact ⟨_, rfl⟩
theorem below_still {w w' : World} (h : ∃ n, w' = w.drewN n) : Below w.heap.size w w' := by
  obtain ⟨n, rfl⟩ := h; exact below_drewN (Below.refl _ _) n
/-- The class of the next piece. -/
def clsY : List Pc → Int
  | [] => -1
  | x :: _ => classZ (x.1 : Int)
theorem drop_at {P : List Pc} {k : Nat} {x : Pc} (h : P[k]? = some x) : P.drop k = x :: P.drop (k + 1) := by
  obtain ⟨h1, h2⟩ := List.getElem?_eq_some_iff.1 h
  rw [← h2]; exact List.drop_eq_getElem_cons h1
theorem at_drop {P Y : List Pc} {k : Nat} {x : Pc} (h : P.drop k = x :: Y) : P[k]? = some x ∧ P.drop (k + 1) = Y ∧ k < P.length := by
  have h1 : P[k]? = some x := by
    have := List.getElem?_drop (xs := P) (i := k) (j := 0)
    rw [h] at this
    simpa using this.symm
  refine ⟨h1, ?_, (List.getElem?_eq_some_iff.1 h1).1⟩
  rw [drop_at h1] at h
  injection h

set_option maxHeartbeats 1000000 in
theorem lclass_any (g : Nat) (t : ByteArray) (P : List Pc) (ao : Option Addr) (cap k : Nat) (w : World) (h : LR w g t P ao cap k) :
    Calls Tryd.prog 25 #[.pointer (some ⟨g, 0, none⟩)] w fun e w' => e = .returned (.int .i64 (clsY (P.drop k))) ∧ ∃ n, w' = w.drewN n := by
  obtain ⟨c0, c1, c2, f2⟩ := h.cells
  by_cases hk : k < P.length
  · obtain ⟨x, hx⟩ : ∃ x, P[k]? = some x := ⟨_, List.getElem?_eq_getElem hk⟩
    obtain ⟨b, rfl, -, -, p2, p3⟩ := h.piece hx
    have hc : clsY (P.drop k) = classZ (x.1 : Int) := by rw [drop_at hx]; rfl
    rw [hc]
    have hkz : ¬ (P.length : Int) ≤ (k : Int) := by omega
    have cK := fun w => refClass_any (x.1 : Int) w
    by_cases hb : bad x
    · rw [class_bad hb]
      rw [decide_eq_true hb] at p3
      clear hc hx cK hb h
      go_enter Tryd.func25, Tryd.ntmps25
      go_wp2_with fail
      go_quiet (fail)
      go_wp2_with fail
      go_quiet (fail)
      go_wp2_with fail
      go_ret
      exact ⟨rfl, by first | exact ⟨_, rfl⟩ | exact still_two _ _ _ | exact still_three _ _ _ _⟩
    · rw [decide_eq_false hb] at p3
      generalize classZ (x.1 : Int) = K at cK ⊢
      clear hc hx hb h
      go_enter Tryd.func25, Tryd.ntmps25
      go_wp2_with fail
      go_quiet (fail)
      go_wp2_with fail
      go_quiet (fail)
      go_wp2_with fail
      go_quiet ((go_at_call 46; exact (cK _).mono fun _ _ h => ⟨h.1, _, h.2.symm⟩))
      go_wp2_with fail
      go_ret
      exact ⟨rfl, by first | exact ⟨_, rfl⟩ | exact still_two _ _ _ | exact still_three _ _ _ _⟩
  · have hc : clsY (P.drop k) = -1 := by rw [List.drop_of_length_le (by omega)]; rfl
    rw [hc]
    have hkz : (P.length : Int) ≤ (k : Int) := by omega
    clear hc h
    go_enter Tryd.func25, Tryd.ntmps25
    go_wp2_with fail
    go_quiet (fail)
    go_wp2_with fail
    go_ret
    exact ⟨rfl, by first | exact ⟨_, rfl⟩ | exact still_two _ _ _ | exact still_three _ _ _ _⟩
set_option maxHeartbeats 1000000 in
theorem lhere_any (g : Nat) (t : ByteArray) (P : List Pc) (ao : Option Addr) (cap k : Nat) (w : World) (h : LR w g t P ao cap k) (hP : (flat P).length = t.size) :
    Calls Tryd.prog 47 #[.pointer (some ⟨g, 0, none⟩)] w fun e w' => e = .returned (.int .i64 ((flat (P.take k)).length : Int)) ∧ ∃ n, w' = w.drewN n := by
  obtain ⟨c0, c1, c2, f2⟩ := h.cells
  by_cases hk : k < P.length
  · obtain ⟨x, hx⟩ : ∃ x, P[k]? = some x := ⟨_, List.getElem?_eq_getElem hk⟩
    obtain ⟨b, rfl, p0, -, -, -⟩ := h.piece hx
    have hkz : ¬ (P.length : Int) ≤ (k : Int) := by omega
    clear hx h hP
    go_enter Tryd.func47, Tryd.ntmps47
    go_wp2_with fail
    go_quiet (fail)
    go_wp2_with fail
    go_quiet (fail)
    go_wp2_with fail
    go_ret
    exact ⟨rfl, by first | exact ⟨_, rfl⟩ | exact still_two _ _ _ | exact still_three _ _ _ _⟩
  · have hc : (flat (P.take k)).length = t.size := by rw [List.take_of_length_le (by omega)]; exact hP
    rw [hc]
    have hkz : (P.length : Int) ≤ (k : Int) := by omega
    clear hc h hP
    go_enter Tryd.func47, Tryd.ntmps47
    go_wp2_with fail
    go_quiet (fail)
    go_wp2_with fail
    go_ret
    exact ⟨rfl, by first | exact ⟨_, rfl⟩ | exact still_two _ _ _ | exact still_three _ _ _ _⟩
end Go.Proofs.YtbeeeakcjeibgaaDoor
