/- Several texts in one: LexL, LexK, LexNum. -/
import Derived.Test.YtkbeemkmcnfiiaaGreatDoorGC
import Derived.Test.YtkbeemkmcnfiiaaGreatDoorGE
import Derived.Deep.QuietTactic
import Derived.BigQuiet
import Derived.Deep.Cut
import Derived.Deep.LoopGhost
import Derived.IntWalk
namespace Go.Proofs.YtkbeemkmcnfiiaaGreatDoor
/- The document's own lexer in memory: its text, its pieces, which one is next. The contracts of its class and here. -/
section
open Go.RowKit

/-- Of what there was one block alone may have turned. -/
structure Away (g : Nat) (w w' : World) : Prop where
  os : w'.os = w.os
  tape : w'.tape = w.tape
  output : w'.output = w.output
  size : w.heap.size ≤ w'.heap.size
  block : ∀ k, k < w.heap.size → k ≠ g → w'.heap[k]? = w.heap[k]?
theorem Away.refl (g : Nat) (w : World) : Away g w w := ⟨rfl, rfl, rfl, Nat.le_refl _, fun _ _ _ => rfl⟩
theorem Away.trans {g : Nat} {a b c : World} (h : Away g a b) (k : Away g b c) : Away g a c :=
  ⟨k.os.trans h.os, k.tape.trans h.tape, k.output.trans h.output, Nat.le_trans h.size k.size, fun i hi hn => (k.block i (Nat.lt_of_lt_of_le hi h.size) hn).trans (h.block i hi hn)⟩
theorem Away.of {g : Nat} {w w' : World} (h : Below w.heap.size w w') : Away g w w' := ⟨h.os, h.tape, h.output, h.size, fun k hk _ => h.block k hk⟩
theorem Away.below {g B : Nat} {w w' : World} (h : Away g w w') (hB : B ≤ g) (hs : B ≤ w.heap.size) : Below B w w' := ⟨h.os, h.tape, h.output, h.size, fun k hk => h.block k (by omega) (by omega)⟩
theorem Away.next {g : Nat} {a w w' : World} (h : Away g a w) (hb : Below w.heap.size w w') : Away g a w' := h.trans (.of hb)
theorem Away.alloc {g : Nat} {a w : World} (h : Away g a w) (o : Obj) : Away g a (w.alloc o) := h.next ((Below.refl _ _).alloc (Nat.le_refl _) o)
theorem Away.set {g : Nat} {a w : World} (h : Away g a w) (i : Nat) (u : Value) : Away g a (w.setCell ⟨g, i, none⟩ u) :=
  h.trans ⟨rfl, rfl, rfl, by simp [World.setCell], fun k _ hn => Below.heap_setCell _ _ _ _ hn⟩
theorem Away.put {g b : Nat} {a w : World} (h : Away g a w) (hb : a.heap.size ≤ b) (i : Nat) (u : Value) : Away g a (w.setCell ⟨b, i, none⟩ u) :=
  ⟨h.os, h.tape, h.output, by simpa [World.setCell] using h.size, fun k hk hn => (Below.heap_setCell _ _ _ _ (by simp only; omega)).trans (h.block k hk hn)⟩
theorem Away.cell {g : Nat} {w w' : World} (h : Away g w w') {p : Addr} (hp : p.block < w.heap.size) (hn : p.block ≠ g) : w'.cell? p = w.cell? p := World.cell?_of_block (w := w) (h.block p.block hp hn)
theorem Away.frozen {g : Nat} {w w' : World} (h : Away g w w') {p : Addr} (hp : p.block < w.heap.size) (hn : p.block ≠ g) : w'.frozen? p = w.frozen? p := World.frozen?_of_block (w := w) (h.block p.block hp hn)
theorem Four.away {w w' : World} {b g : Nat} {a1 b1 c1 d1 : Value} (h : Four w b a1 b1 c1 d1) (hb : Away g w w') (hn : b ≠ g) : Four w' b a1 b1 c1 d1 :=
  ⟨Nat.lt_of_lt_of_le h.lt hb.size, (hb.cell (p := ⟨b, 0, none⟩) h.lt hn).trans h.c0, (hb.cell (p := ⟨b, 1, none⟩) h.lt hn).trans h.c1, (hb.cell (p := ⟨b, 2, none⟩) h.lt hn).trans h.c2, (hb.cell (p := ⟨b, 3, none⟩) h.lt hn).trans h.c3,
    (hb.frozen (p := ⟨b, 0, none⟩) h.lt hn).trans h.f0, (hb.frozen (p := ⟨b, 1, none⟩) h.lt hn).trans h.f1, (hb.frozen (p := ⟨b, 2, none⟩) h.lt hn).trans h.f2, (hb.frozen (p := ⟨b, 3, none⟩) h.lt hn).trans h.f3⟩

/-- Where the pieces lie. -/
def PRow (w : World) (g : Nat) (ao : Option Addr) (P : List Pc) : Prop := 0 < P.length → ∃ h, ao = some ⟨h, 0, none⟩ ∧ h ≠ g ∧ h < w.heap.size ∧ ∀ k x, P[k]? = some x →
  w.cell? ⟨h, k * 4, none⟩ = some (.int .i64 ((flat (P.take k)).length : Int)) ∧ w.cell? ⟨h, k * 4 + 1, none⟩ = some (.int .i64 (x.2.length : Int)) ∧ w.cell? ⟨h, k * 4 + 2, none⟩ = some (.int .i32 (x.1 : Int)) ∧ w.cell? ⟨h, k * 4 + 3, none⟩ = some (.bool (decide (bad x)))
theorem PRow.away {w w' : World} {g : Nat} {ao : Option Addr} {P : List Pc} (h : PRow w g ao P) (hb : Away g w w') : PRow w' g ao P := fun h0 => by
  obtain ⟨b, e, hn, hl, hc⟩ := h h0
  refine ⟨b, e, hn, Nat.lt_of_lt_of_le hl hb.size, fun k x hx => ?_⟩
  obtain ⟨h1, h2, h3, h4⟩ := hc k x hx
  exact ⟨(hb.cell (p := ⟨b, k * 4, none⟩) hl hn).trans h1, (hb.cell (p := ⟨b, k * 4 + 1, none⟩) hl hn).trans h2, (hb.cell (p := ⟨b, k * 4 + 2, none⟩) hl hn).trans h3, (hb.cell (p := ⟨b, k * 4 + 3, none⟩) hl hn).trans h4⟩
/-- The lexer lies in block g. -/
def LR (w : World) (g : Nat) (t : ByteArray) (P : List Pc) (ao : Option Addr) (cap : Nat) (k : Nat) : Prop :=
  k ≤ P.length ∧ P.length ≤ cap ∧ w.heap[g]? = some (.cells #[.string t, .slice ao P.length cap, .int .i64 (k : Int)] 87 (0, 0)) ∧ PRow w g ao P
/-- The same, on the way from w0: of what there was the lexer's block alone has turned. -/
def LA (w0 w : World) (g : Nat) (t : ByteArray) (P : List Pc) (ao : Option Addr) (cap : Nat) (k : Nat) : Prop :=
  LR w g t P ao cap k ∧ Away g w0 w ∧ g < w0.heap.size ∧ PRow w0 g ao P
section
variable {w0 w w' : World} {g : Nat} {t : ByteArray} {P : List Pc} {ao : Option Addr} {cap k : Nat}
theorem LR.lt (h : LR w g t P ao cap k) : g < w.heap.size := (Array.getElem?_eq_some_iff.1 h.2.2.1).1
theorem LR.le (h : LR w g t P ao cap k) : k ≤ P.length := h.1
theorem LR.later (h : LR w g t P ao cap k) (hb : Below w.heap.size w w') : LR w' g t P ao cap k :=
  ⟨h.1, h.2.1, (hb.block g h.lt).trans h.2.2.1, h.2.2.2.away (.of hb)⟩
theorem LR.cells (h : LR w g t P ao cap k) : w.cell? ⟨g, 0, none⟩ = some (.string t) ∧ w.cell? ⟨g, 1, none⟩ = some (.slice ao P.length cap) ∧ w.cell? ⟨g, 2, none⟩ = some (.int .i64 (k : Int)) ∧ w.frozen? ⟨g, 2, none⟩ = false := by
  obtain ⟨h1, h3, h2, h4⟩ := h
  refine ⟨?_, ?_, ?_, ?_⟩
  · rw [cell_of_row w g 0 _ _ _ h2]; rfl
  · rw [cell_of_row w g 1 _ _ _ h2]; rfl
  · rw [cell_of_row w g 2 _ _ _ h2]; rfl
  · simp [World.frozen?, h2]
theorem LR.set (h : LR w g t P ao cap k) {n : Nat} (hn : n ≤ P.length) : LR (w.setCell ⟨g, 2, none⟩ (.int .i64 (n : Int))) g t P ao cap n := by
  obtain ⟨h1, h3, h2, h4⟩ := h
  exact ⟨hn, h3, by rw [heap_setCell_same w g 2 _ _ _ h2]; rfl, h4.away ((Away.refl g w).set 2 _)⟩
/-- The piece that is next. -/
theorem LR.piece (h : LR w g t P ao cap k) {x : Pc} (hx : P[k]? = some x) : ∃ b, ao = some ⟨b, 0, none⟩ ∧ w.cell? ⟨b, k * 4, none⟩ = some (.int .i64 ((flat (P.take k)).length : Int)) ∧ w.cell? ⟨b, k * 4 + 1, none⟩ = some (.int .i64 (x.2.length : Int)) ∧ w.cell? ⟨b, k * 4 + 2, none⟩ = some (.int .i32 (x.1 : Int)) ∧ w.cell? ⟨b, k * 4 + 3, none⟩ = some (.bool (decide (bad x))) := by
  obtain ⟨b, e, -, -, hc⟩ := h.2.2.2 (Nat.lt_of_le_of_lt (Nat.zero_le _) (List.getElem?_eq_some_iff.1 hx).1)
  exact ⟨b, e, hc k x hx⟩
theorem LA.start (h : LR w g t P ao cap k) : LA w w g t P ao cap k := ⟨h, Away.refl g w, h.lt, h.2.2.2⟩
theorem LA.later (h : LA w0 w g t P ao cap k) (hb : Below w.heap.size w w') : LA w0 w' g t P ao cap k := ⟨h.1.later hb, h.2.1.next hb, h.2.2⟩
theorem LA.alloc (h : LA w0 w g t P ao cap k) (o : Obj) : LA w0 (w.alloc o) g t P ao cap k := h.later ((Below.refl _ _).alloc (Nat.le_refl _) o)
theorem LA.set (h : LA w0 w g t P ao cap k) {n : Nat} (hn : n ≤ P.length) : LA w0 (w.setCell ⟨g, 2, none⟩ (.int .i64 (n : Int))) g t P ao cap n := ⟨h.1.set hn, h.2.1.set 2 _, h.2.2⟩
theorem LA.step (h : LA w0 w g t P ao cap k) {n : Nat} (hR : LR w' g t P ao cap n) (hb : Away g w w') : LA w0 w' g t P ao cap n := ⟨hR, h.2.1.trans hb, h.2.2⟩
theorem LA.put (h : LA w0 w g t P ao cap k) {b : Nat} (hb : w0.heap.size ≤ b) (i : Nat) (u : Value) : LA w0 (w.setCell ⟨b, i, none⟩ u) g t P ao cap k := by
  obtain ⟨⟨h1, h2, h3, -⟩, h5, h6, h7⟩ := h
  have h8 := h5.put hb i u
  exact ⟨⟨h1, h2, (Below.heap_setCell _ _ _ _ (by simp only; omega)).trans h3, h7.away h8⟩, h8, h6, h7⟩
end

theorem still_two (w : World) (a b : Nat) : ∃ n, (w.drewN a).drewN b = w.drewN n := ⟨_, World.drewN_drewN _ _ _⟩
theorem still_three (w : World) (a b c : Nat) : ∃ n, ((w.drewN a).drewN b).drewN c = w.drewN n := by
  rw [World.drewN_drewN, World.drewN_drewN]; exact ⟨_, rfl⟩
theorem below_still {w w' : World} (h : ∃ n, w' = w.drewN n) : Below w.heap.size w w' := by
  obtain ⟨n, rfl⟩ := h; exact below_drewN (Below.refl _ _) n
/-- The class of the next piece. -/
def clsY : List Pc → Int
  | [] => -1
  | x :: _ => classZ (x.1 : Int)
theorem drop_at {P : List Pc} {k : Nat} {x : Pc} (h : P[k]? = some x) : P.drop k = x :: P.drop (k + 1) := by
  obtain ⟨h1, h2⟩ := List.getElem?_eq_some_iff.1 h
  rw [← h2]; exact List.drop_eq_getElem_cons h1
theorem at_drop {P Y : List Pc} {k : Nat} {x : Pc} (h : P.drop k = x :: Y) : P[k]? = some x ∧ P.drop (k + 1) = Y ∧ k < P.length := by
  have h1 : P[k]? = some x := by
    have := List.getElem?_drop (xs := P) (i := k) (j := 0)
    rw [h] at this
    simpa using this.symm
  refine ⟨h1, ?_, (List.getElem?_eq_some_iff.1 h1).1⟩
  rw [drop_at h1] at h
  injection h

set_option maxHeartbeats 1000000 in
theorem lclass_any (g : Nat) (t : ByteArray) (P : List Pc) (ao : Option Addr) (cap k : Nat) (w : World) (h : LR w g t P ao cap k) :
    Calls Tryz.prog 66 #[.pointer (some ⟨g, 0, none⟩)] w fun e w' => e = .returned (.int .i64 (clsY (P.drop k))) ∧ ∃ n, w' = w.drewN n := by
  obtain ⟨c0, c1, c2, f2⟩ := h.cells
  by_cases hk : k < P.length
  · obtain ⟨x, hx⟩ : ∃ x, P[k]? = some x := ⟨_, List.getElem?_eq_getElem hk⟩
    obtain ⟨b, rfl, -, -, p2, p3⟩ := h.piece hx
    have hc : clsY (P.drop k) = classZ (x.1 : Int) := by rw [drop_at hx]; rfl
    rw [hc]
    have hkz : ¬ (P.length : Int) ≤ (k : Int) := by omega
    have cK := fun w => refClass_any (x.1 : Int) w
    by_cases hb : bad x
    · rw [class_bad hb]
      rw [decide_eq_true hb] at p3
      clear hc hx cK hb h
      go_enter Tryz.func66, Tryz.ntmps66
      go_wp2_with fail
      go_quiet (fail)
      go_wp2_with fail
      go_quiet (fail)
      go_wp2_with fail
      go_ret
      exact ⟨rfl, by first | exact ⟨_, rfl⟩ | exact still_two _ _ _ | exact still_three _ _ _ _⟩
    · rw [decide_eq_false hb] at p3
      generalize classZ (x.1 : Int) = K at cK ⊢
      clear hc hx hb h
      go_enter Tryz.func66, Tryz.ntmps66
      go_wp2_with fail
      go_quiet (fail)
      go_wp2_with fail
      go_quiet (fail)
      go_wp2_with fail
      go_quiet ((go_at_call 81; exact (cK _).mono fun _ _ h => ⟨h.1, _, h.2.symm⟩))
      go_wp2_with fail
      go_ret
      exact ⟨rfl, by first | exact ⟨_, rfl⟩ | exact still_two _ _ _ | exact still_three _ _ _ _⟩
  · have hc : clsY (P.drop k) = -1 := by rw [List.drop_of_length_le (by omega)]; rfl
    rw [hc]
    have hkz : (P.length : Int) ≤ (k : Int) := by omega
    clear hc h
    go_enter Tryz.func66, Tryz.ntmps66
    go_wp2_with fail
    go_quiet (fail)
    go_wp2_with fail
    go_ret
    exact ⟨rfl, by first | exact ⟨_, rfl⟩ | exact still_two _ _ _ | exact still_three _ _ _ _⟩
set_option maxHeartbeats 1000000 in
theorem lhere_any (g : Nat) (t : ByteArray) (P : List Pc) (ao : Option Addr) (cap k : Nat) (w : World) (h : LR w g t P ao cap k) (hP : (flat P).length = t.size) :
    Calls Tryz.prog 82 #[.pointer (some ⟨g, 0, none⟩)] w fun e w' => e = .returned (.int .i64 ((flat (P.take k)).length : Int)) ∧ ∃ n, w' = w.drewN n := by
  obtain ⟨c0, c1, c2, f2⟩ := h.cells
  by_cases hk : k < P.length
  · obtain ⟨x, hx⟩ : ∃ x, P[k]? = some x := ⟨_, List.getElem?_eq_getElem hk⟩
    obtain ⟨b, rfl, p0, -, -, -⟩ := h.piece hx
    have hkz : ¬ (P.length : Int) ≤ (k : Int) := by omega
    clear hx h hP
    go_enter Tryz.func82, Tryz.ntmps82
    go_wp2_with fail
    go_quiet (fail)
    go_wp2_with fail
    go_quiet (fail)
    go_wp2_with fail
    go_ret
    exact ⟨rfl, by first | exact ⟨_, rfl⟩ | exact still_two _ _ _ | exact still_three _ _ _ _⟩
  · have hc : (flat (P.take k)).length = t.size := by rw [List.take_of_length_le (by omega)]; exact hP
    rw [hc]
    have hkz : (P.length : Int) ≤ (k : Int) := by omega
    clear hc h hP
    go_enter Tryz.func82, Tryz.ntmps82
    go_wp2_with fail
    go_quiet (fail)
    go_wp2_with fail
    go_ret
    exact ⟨rfl, by first | exact ⟨_, rfl⟩ | exact still_two _ _ _ | exact still_three _ _ _ _⟩
end
/- The document's own lexer: a number. -/
section
open Go.RowKit

/-- What the lexer tells of a piece: the token, and goes on behind it; or that there is none. -/
def LTok (w : World) (g : Nat) (t : ByteArray) (P : List Pc) (ao : Option Addr) (cap k : Nat) (o : Option Fd) (e : Ending) (w' : World) : Prop :=
  Away g w w' ∧ match o with
  | none => ∃ (K : Int) (S : ByteArray) (n : Int), e = .returned (.tuple #[T4 K S n ((flat (P.take k)).length : Int), .bool false])
  | some f => e = .returned (.tuple #[T4 f.k ⟨f.s.toArray⟩ f.n ((flat (P.take k)).length : Int), .bool true]) ∧ LR w' g t P ao cap (k + 1 + f.j)
/-- A block of four cells that the call has made, and its answer's. -/
structure Two4 (w0 w : World) (b c : Nat) (k s n a : Value) : Prop where
  lo : w0.heap.size ≤ b
  lo2 : w0.heap.size ≤ c
  ne : b ≠ c
  t : Four w b k s n a
  r : Four w c (.int .i64 0) (.string ⟨#[]⟩) (.int .i64 0) (.int .i64 0)
theorem Two4.later {w0 w w' : World} {b c : Nat} {k s n a : Value} (h : Two4 w0 w b c k s n a) (hb : Below w.heap.size w w') : Two4 w0 w' b c k s n a := ⟨h.lo, h.lo2, h.ne, h.t.later hb, h.r.later hb⟩
theorem Two4.away {w0 w w' : World} {g b c : Nat} {k s n a : Value} (h : Two4 w0 w b c k s n a) (hb : Away g w w') (hg : g < w0.heap.size) : Two4 w0 w' b c k s n a :=
  ⟨h.lo, h.lo2, h.ne, h.t.away hb (by have := h.lo; omega), h.r.away hb (by have := h.lo2; omega)⟩
theorem Four.other {w : World} {g b i : Nat} {x1 x2 x3 x4 u : Value} (h : Four w g x1 x2 x3 x4) (hn : b ≠ g) : Four (w.setCell ⟨b, i, none⟩ u) g x1 x2 x3 x4 := by
  have ho : ∀ (q : Addr), q.block = g → (w.setCell ⟨b, i, none⟩ u).cell? q = w.cell? q := fun q hq => World.cell?_of_block (w := w) (Below.heap_setCell _ _ _ _ (by rw [hq]; exact fun e => hn e.symm))
  have hf : ∀ (q : Addr), q.block = g → (w.setCell ⟨b, i, none⟩ u).frozen? q = w.frozen? q := fun q hq => World.frozen?_of_block (w := w) (Below.heap_setCell _ _ _ _ (by rw [hq]; exact fun e => hn e.symm))
  obtain ⟨hl, h0, h1, h2, h3, f0, f1, f2, f3⟩ := h
  exact ⟨by simpa [World.setCell] using hl, (ho _ rfl).trans h0, (ho _ rfl).trans h1, (ho _ rfl).trans h2, (ho _ rfl).trans h3, (hf _ rfl).trans f0, (hf _ rfl).trans f1, (hf _ rfl).trans f2, (hf _ rfl).trans f3⟩
theorem Four.set2 {w : World} {g : Nat} {a b c d : Value} (h : Four w g a b c d) (y : Value) : Four (w.setCell ⟨g, 2, none⟩ y) g a b y d := by
  obtain ⟨hl, h0, h1, h2, h3, f0, f1, f2, f3⟩ := h
  refine ⟨by simpa using hl, ?_, ?_, ?_, ?_, ?_, ?_, ?_, ?_⟩
  all_goals simp [h0, h1, h2, h3, f0, f1, f2, f3, go_sem]
theorem Four.set1 {w : World} {g : Nat} {a b c d : Value} (h : Four w g a b c d) (y : Value) : Four (w.setCell ⟨g, 1, none⟩ y) g a y c d := by
  obtain ⟨hl, h0, h1, h2, h3, f0, f1, f2, f3⟩ := h
  refine ⟨by simpa using hl, ?_, ?_, ?_, ?_, ?_, ?_, ?_, ?_⟩
  all_goals simp [h0, h1, h2, h3, f0, f1, f2, f3, go_sem]

theorem LA.q {w0 w : World} {g : Nat} {t : ByteArray} {P : List Pc} {ao : Option Addr} {cap k : Nat} (h : LA w0 w g t P ao cap k) (q : Nat) : LA w0 (w.drewN q) g t P ao cap k := h.later (below_still ⟨q, rfl⟩)
theorem LA.goes {w0 w : World} {g : Nat} {t : ByteArray} {P : List Pc} {ao : Option Addr} {cap k n : Nat} {z : Int} (h : LA w0 w g t P ao cap k) (hn : n ≤ P.length) (hz : z = (n : Int)) : LA w0 (w.setCell ⟨g, 2, none⟩ (.int .i64 z)) g t P ao cap n := by
  subst hz; exact h.set hn
theorem Two4.q {w0 w : World} {b c : Nat} {k s n a : Value} (h : Two4 w0 w b c k s n a) (q : Nat) : Two4 w0 (w.drewN q) b c k s n a := h.later (below_still ⟨q, rfl⟩)
theorem Two4.goes {w0 w : World} {g b c : Nat} {k s n a : Value} (h : Two4 w0 w b c k s n a) (hg : g < w0.heap.size) (u : Value) : Two4 w0 (w.setCell ⟨g, 2, none⟩ u) b c k s n a := h.away ((Away.refl g w).set 2 u) hg
theorem Two4.num {w0 w : World} {b c : Nat} {k s n a : Value} (h : Two4 w0 w b c k s n a) (u : Value) : Two4 w0 (w.setCell ⟨b, 2, none⟩ u) b c k s u a := ⟨h.lo, h.lo2, h.ne, h.t.set2 u, h.r.other h.ne⟩
theorem Two4.str {w0 w : World} {b c : Nat} {k s n a : Value} (h : Two4 w0 w b c k s n a) (u : Value) : Two4 w0 (w.setCell ⟨b, 1, none⟩ u) b c k u n a := ⟨h.lo, h.lo2, h.ne, h.t.set1 u, h.r.other h.ne⟩
theorem LTok.no {w w' : World} {g : Nat} {t : ByteArray} {P : List Pc} {ao : Option Addr} {cap k here : Nat} {o : Option Fd} (h : Away g w w') (K : Int) (S : ByteArray) (n : Int) (hh : (flat (P.take k)).length = here) (ho : o = none) :
    LTok w g t P ao cap k o (.returned (.tuple #[T4 K S n (here : Int), .bool false])) w' := by
  subst ho hh; exact ⟨h, _, _, _, rfl⟩
theorem LTok.yes {w w' : World} {g : Nat} {t : ByteArray} {P : List Pc} {ao : Option Addr} {cap k n here : Nat} {o : Option Fd} {f : Fd} (h : LA w w' g t P ao cap n) (hh : (flat (P.take k)).length = here) (ho : o = some f) (hn : n = k + 1 + f.j) :
    LTok w g t P ao cap k o (.returned (.tuple #[T4 f.k ⟨f.s.toArray⟩ f.n (here : Int), .bool true])) w' := by
  subst ho hh hn; exact ⟨h.2.1, rfl, h.1⟩
theorem LA.fin {w0 w : World} {g : Nat} {t : ByteArray} {P : List Pc} {ao : Option Addr} {cap k c : Nat} (h : LA w0 w g t P ao cap k) (hc : w0.heap.size ≤ c) (x1 x2 x3 x4 : Value) : LA w0 ((((w.setCell ⟨c, 0, none⟩ x1).setCell ⟨c, 1, none⟩ x2).setCell ⟨c, 2, none⟩ x3).setCell ⟨c, 3, none⟩ x4) g t P ao cap k :=
  (((h.put hc 0 x1).put hc 1 x2).put hc 2 x3).put hc 3 x4
/-- How far a number is read. -/
def NumAt (D : List Pc) (i N : Nat) (ok : Bool) : Prop :=
  i ≤ D.length ∧ N < 9223372036854775808 ∧ ((ok = true ∧ N = valN (flat (D.take i))) ∨ (ok = false ∧ 9223372036854775808 ≤ valN (flat (D.take i))))
theorem valN_next {D : List Pc} {i : Nat} {x : Pc} (hx : D[i]? = some x) (hf : Fit x) (hc : 48 ≤ x.1 ∧ x.1 ≤ 57) : valN (flat (D.take (i + 1))) = valN (flat (D.take i)) * 10 + (x.1 - 48) := by
  rw [List.take_add_one, hx, flat_append]
  show valN (_ ++ flat [x]) = _
  rw [flat_cons, flat_nil, List.append_nil, hf.one (by omega), valN_snoc, u8_nat _ (by omega)]
theorem NumAt.over {D : List Pc} {i N : Nat} {ok : Bool} {x : Pc} (h : NumAt D i N ok) (hx : D[i]? = some x) (hf : Fit x) (hc : 48 ≤ x.1 ∧ x.1 ≤ 57) (hN : (9223372036854775807 - (x.1 - 48)) / 10 < N) : NumAt D (i + 1) N false := by
  have hv := valN_next hx hf hc
  obtain ⟨h1, h2, h3⟩ := h
  refine ⟨(List.getElem?_eq_some_iff.1 hx).1, h2, .inr ⟨rfl, ?_⟩⟩
  rw [hv]
  rcases h3 with ⟨-, h4⟩ | ⟨-, h4⟩
  · rw [← h4]; omega
  · omega
theorem NumAt.more {D : List Pc} {i N : Nat} {ok : Bool} {x : Pc} (h : NumAt D i N ok) (hx : D[i]? = some x) (hf : Fit x) (hc : 48 ≤ x.1 ∧ x.1 ≤ 57) (hN : ¬ (9223372036854775807 - (x.1 - 48)) / 10 < N) : N * 10 + (x.1 - 48) < 9223372036854775808 ∧ NumAt D (i + 1) (N * 10 + (x.1 - 48)) ok := by
  have hv := valN_next hx hf hc
  obtain ⟨h1, h2, h3⟩ := h
  have hb : N * 10 + (x.1 - 48) < 9223372036854775808 := by omega
  refine ⟨hb, (List.getElem?_eq_some_iff.1 hx).1, hb, ?_⟩
  rcases h3 with ⟨h5, h4⟩ | ⟨h5, h4⟩
  · exact .inl ⟨h5, by rw [hv, ← h4]⟩
  · exact .inr ⟨h5, by rw [hv]; omega⟩
theorem dig_in {x : Pc} (h : classZ (x.1 : Int) = 2) : 48 ≤ x.1 ∧ x.1 ≤ 57 := by
  rcases class_cases (x.1 : Int) with ⟨_, h⟩ | ⟨h, _⟩ | ⟨h, _⟩ | ⟨h, _⟩
  · omega
  all_goals omega
/-- Pieces of one kind from a place on. -/
theorem run_at {P : List Pc} {p : Pc → Bool} {k : Nat} {D : List Pc} (hD : (P.drop k).takeWhile p = D) (i : Nat) : (∀ (h : i < D.length), P.drop (k + i) = D[i] :: P.drop (k + i + 1) ∧ p D[i] = true) ∧ (i = D.length → ∀ y, (P.drop (k + i)).head? = some y → p y = false) := by
  have hpre : D <+: P.drop k := hD ▸ List.takeWhile_prefix p
  obtain ⟨E, hE⟩ := hpre
  constructor
  · intro h
    have hg : P[k + i]? = some D[i] := by
      rw [← List.getElem?_drop, ← hE, List.getElem?_append_left h]
      exact List.getElem?_eq_getElem h
    refine ⟨drop_at hg, ?_⟩
    have := List.all_eq_true.1 (List.all_takeWhile (p := p) (l := P.drop k)) D[i] (by rw [hD]; exact List.getElem_mem h)
    exact this
  · rintro rfl y hy
    have he : P.drop (k + D.length) = E := by rw [← List.drop_drop, ← hE, List.drop_left]
    rw [he] at hy
    cases hpy : p y with
    | false => rfl
    | true =>
      cases E with
      | nil => cases hy
      | cons z E =>
        simp only [List.head?_cons, Option.some.injEq] at hy
        subst hy
        have h2 := hD
        rw [← hE, List.takeWhile_append] at h2
        have hall : D.takeWhile p = D := by
          have := List.takeWhile_append_of_pos (p := p) (l₁ := D) (l₂ := []) (fun z hz => List.all_eq_true.1 (List.all_takeWhile (p := p) (l := P.drop k)) z (by rw [hD]; exact hz))
          simpa using this
        rw [hall, if_pos rfl, List.takeWhile_cons_of_pos hpy] at h2
        have := congrArg List.length h2
        simp at this
end
/- The contract of the document's own num: the number that begins at the next piece. -/
section
open Go.RowKit

set_option maxHeartbeats 2000000 in
set_option maxRecDepth 100000 in
theorem lnum_any (g : Nat) (t : ByteArray) (P : List Pc) (ao : Option Addr) (cap k : Nat) (x : Pc) (R : List Pc) (w : World) (h : LR w g t P ao cap k) (hs : (flat P).length = t.size) (hl : t.size ≤ 1000) (hPc : Pcd P) (hd : P.drop k = x :: R) (hx : classZ (x.1 : Int) = 2) :
    Calls Tryz.prog 67 #[.pointer (some ⟨g, 0, none⟩)] w (LTok w g t P ao cap k (numF x R)) := by
  obtain ⟨D, hD⟩ : ∃ D, (P.drop k).takeWhile isDig = D := ⟨_, rfl⟩
  have hD2 : D = x :: R.takeWhile isDig := by rw [← hD, hd, List.takeWhile_cons_of_pos (by simp [isDig, hx])]
  have hDl : D.length = 1 + (R.takeWhile isDig).length := by rw [hD2, List.length_cons]; omega
  have hDP : k + D.length ≤ P.length := by
    have h1 : D.length ≤ (P.drop k).length := by rw [← hD]; exact (List.takeWhile_prefix isDig).length_le
    have h2 := congrArg List.length hd
    rw [List.length_drop] at h1 h2
    rw [List.length_cons] at h2
    omega
  have hPl : P.length ≤ 1000 := by have := flat_len hPc.fit; omega
  have hrun := fun i => run_at hD i
  have hfit : ∀ i (hi : i < D.length), Fit D[i] := fun i hi => hPc.fit _ (List.mem_of_mem_drop (i := k) ((hD ▸ List.takeWhile_prefix isDig : D <+: P.drop k).subset (List.getElem_mem hi)))
  have hnum : numF x R = if valN (flat D) < 9223372036854775808 then some ⟨1, [], valN (flat D), D.length - 1⟩ else none := by
    unfold numF; rw [← hD2, hDl, Nat.add_sub_cancel_left]
  obtain ⟨O, hO⟩ : ∃ O, numF x R = O := ⟨_, rfl⟩
  rw [hO] at hnum ⊢
  obtain ⟨here, hh⟩ : ∃ n : Nat, (flat (P.take k)).length = n := ⟨_, rfl⟩
  have HH := Lib.hid hh
  have HO := Lib.hid hnum
  have HR := Lib.hid hrun
  have HF := Lib.hid hfit
  have hgl := h.lt
  have hA0 := (LA.start h).alloc (.cells #[.int .i64 0, .string ⟨#[]⟩, .int .i64 0, .int .i64 0] 71)
  have hr0 := four_new w (.int .i64 0) (.string ⟨#[]⟩) (.int .i64 0) (.int .i64 0) 71
  have hs0 : w.heap.size < (w.alloc (.cells #[.int .i64 0, .string ⟨#[]⟩, .int .i64 0, .int .i64 0] 71)).heap.size := hr0.lt
  obtain ⟨w0, hw0⟩ : ∃ w0, w.alloc (.cells #[.int .i64 0, .string ⟨#[]⟩, .int .i64 0, .int .i64 0] 71) = w0 := ⟨_, rfl⟩
  rw [hw0] at hA0 hr0 hs0
  have cH := lhere_any g t P ao cap k w0 hA0.1 hs
  rw [hh] at cH
  have HA := Lib.hid hA0
  clear h hd hD hx hO hnum hrun hfit hA0 hs hD2 hh
  go_enter Tryz.func67, Tryz.ntmps67
  go_wp2_with fail
  refine cH.mono ?_
  rintro e w1 ⟨rfl, q, rfl⟩
  clear hw0
  have hA1 := HA.out.later (below_still ⟨q, rfl⟩)
  have hr1 := hr0.later (below_still ⟨q, rfl⟩)
  have hs1 : w.heap.size < (w0.drewN q).heap.size := hr1.lt
  generalize hw1 : w0.drewN q = w1 at *
  clear hw1 hr0 hs0 HA cH
  go_upto_region 2 with fail
  have hb2 := below_alloc w1 (.cells #[.int .i64 1, .string ⟨#[]⟩, .int .i64 0, .int .i64 (here : Int)] 71)
  have hA2 := hA1.later hb2
  have hF2 : Two4 w _ w1.heap.size w.heap.size (.int .i64 1) (.string ⟨#[]⟩) (.int .i64 0) (.int .i64 (here : Int)) := ⟨Nat.le_of_lt hs1, Nat.le_refl _, by omega, four_new w1 (.int .i64 1) (.string ⟨#[]⟩) (.int .i64 0) (.int .i64 (here : Int)) 71, hr1.later hb2⟩
  generalize hw2 : w1.alloc (.cells #[.int .i64 1, .string ⟨#[]⟩, .int .i64 0, .int .i64 (here : Int)] 71) = w2 at *
  generalize hbb : w1.heap.size = b at *
  clear hw2 hb2 hA1 hr1 hs1 hbb
  have HA := Lib.hid hA2
  have HF2 := Lib.hid hF2
  have h0 : NumAt D 0 0 true := ⟨Nat.zero_le _, by decide, .inl ⟨rfl, rfl⟩⟩
  have H0 := Lib.hid h0
  clear hA2 hF2 h0
  go_wp2_with fail
  go_loopg [5] (D.length) (fun n s5 wr => ∃ (i N : Nat) (ok : Bool), i + n = D.length ∧ s5 = .bool ok ∧ Hid (LA w wr g t P ao cap (k + i)) ∧ Hid (Two4 w wr b w.heap.size (.int .i64 1) (.string ⟨#[]⟩) (.int .i64 (N : Int)) (.int .i64 (here : Int))) ∧ Hid (NumAt D i N ok))
  case atStart => exact ⟨0, 0, true, by omega, rfl, HA, HF2, H0⟩
  case round =>
    obtain ⟨i, N, ok, hin, rfl, HA3, HF3, HN⟩ := hrel
    clear HA HF2 H0
    have cC := lclass_any g t P ao cap (k + i) wr HA3.out.1
    obtain ⟨c0, c1, c2, f2⟩ := HA3.out.1.cells
    obtain ⟨lo, lo2, hne, ⟨tl, t0, t1, t2, t3, tf0, tf1, tf2, tf3⟩, ⟨rl, z0, z1, z2, z3, f0, f1, f2', f3⟩⟩ := HF3.out
    by_cases hi : i < D.length
    · obtain ⟨hdr, hdg⟩ := (HR.out i).1 hi
      have hdc : classZ (D[i].1 : Int) = 2 := by simpa [isDig] using hdg
      have hdi := dig_in hdc
      obtain ⟨hpx, -, hkl⟩ := at_drop hdr
      obtain ⟨bb, rfl, -, -, p2, -⟩ := HA3.out.1.piece hpx
      rw [hdr] at cC
      simp only [clsY, hdc] at cC
      have hfx := HF.out i hi
      have hgx : D[i]? = some D[i] := List.getElem?_eq_getElem hi
      generalize D[i] = y at *
      obtain ⟨d, hdd⟩ : ∃ d, y.1 = 48 + d := ⟨y.1 - 48, by omega⟩
      have hover := fun hN => HN.out.over hgx hfx hdi hN
      have hmore := fun hN => HN.out.more hgx hfx hdi hN
      rw [hdd, Nat.add_sub_cancel_left] at hover hmore
      obtain ⟨r, hr⟩ : ∃ r : Int, (y.1 : Int) = r := ⟨_, rfl⟩
      rw [hr] at p2
      have hd9 : d ≤ 9 := by omega
      have hNb := HN.out.2.1
      have hsub : r - 48 = (d : Int) := by omega
      have hr0 : 48 ≤ r := by omega
      have hr1 : r ≤ 57 := by omega
      have HO1 := Lib.hid hover
      have HM1 := Lib.hid hmore
      clear hover hmore hdr hdg hdc hdi hpx hfx hgx hdd hr
      by_cases hov : (9223372036854775807 - d) / 10 < N
      · have hovz : (9223372036854775807 - (d : Int)) / 10 < (N : Int) := by omega
        have hN2 := Lib.hid (HO1.out hov)
        clear HO1 HM1 hov
        go_wp2_with fail
        refine cC.mono ?_
        rintro e w4 ⟨rfl, q4, rfl⟩
        clear cC
        go_wp2_with fail
        go_quiet (fail)
        go_wp2_with fail
        go_roundg (gk - 1)
        case measure => omega
        case rel =>
          refine ⟨i + 1, N, false, by omega, rfl, Lib.hid ?_, Lib.hid ?_, hN2⟩
          · first
            | exact (HA3.out.q _).goes (by omega) (by omega)
            | exact ((HA3.out.q _).q _).goes (by omega) (by omega)
          · first
            | exact (HF3.out.q _).goes hgl _
            | exact ((HF3.out.q _).q _).goes hgl _
      · have hovz : ¬ (9223372036854775807 - (d : Int)) / 10 < (N : Int) := by omega
        obtain ⟨hsm, hN2⟩ := HM1.out hov
        have HN2 := Lib.hid hN2
        clear HO1 HM1 hov hN2
        go_wp2_with fail
        refine cC.mono ?_
        rintro e w4 ⟨rfl, q4, rfl⟩
        clear cC
        go_wp2_with fail
        go_quiet (fail)
        go_wp2_with fail
        go_roundg (gk - 1)
        case measure => omega
        case rel =>
          refine ⟨i + 1, N * 10 + d, ok, by omega, rfl, Lib.hid ?_, Lib.hid ?_, HN2⟩
          · first
            | exact ((HA3.out.q _).put lo 2 _).goes (by omega) (by omega)
            | exact (((HA3.out.q _).q _).put lo 2 _).goes (by omega) (by omega)
          · push_cast
            first
            | exact ((HF3.out.q _).num _).goes hgl _
            | exact (((HF3.out.q _).q _).num _).goes hgl _
    · have hiD : i = D.length := by have := HN.out.1; omega
      have hno : clsY (P.drop (k + i)) ≠ 2 := by
        have h2 := (HR.out i).2 hiD
        cases hY : P.drop (k + i) with
        | nil => decide
        | cons y Y =>
          have := h2 y (by rw [hY]; rfl)
          unfold isDig at this
          exact of_decide_eq_false this
      obtain ⟨c, hc⟩ : ∃ c, clsY (P.drop (k + i)) = c := ⟨_, rfl⟩
      rw [hc] at cC hno
      have hnz : (c == 2) = false := beq_eq_false_iff_ne.2 hno
      have hNb := HN.out.2.1
      have hfin := HN.out.2.2
      rw [hiD, List.take_length] at hfin
      have HFI := Lib.hid hfin
      have HAF := Lib.hid HA3.out
      clear hno hc hfin HN
      go_wp2_with fail
      refine cC.mono ?_
      rintro e w4 ⟨rfl, q4, rfl⟩
      clear cC
      go_wp2_with fail
      have hAE := ((((HAF.out.q q4).put lo2 0 (.int .i64 1)).put lo2 1 (.string ⟨#[]⟩)).put lo2 2 (.int .i64 (N : Int))).put lo2 3 (.int .i64 (here : Int))
      exact bodyPost_ret (v := .tuple #[T4 1 ⟨#[]⟩ N here, .bool ok]) (by simp [results, Tryz.results67, go_sem, z0, z1, z2, z3]) rfl ⟨hAE.2.1, by
        rw [HO.out]
        rcases HFI.out with ⟨rfl, hv⟩ | ⟨rfl, hv⟩
        · rw [← hv, if_pos hNb, HH.out]
          refine ⟨rfl, ?_⟩
          show LR _ g t P ao cap (k + 1 + (D.length - 1))
          rw [show k + 1 + (D.length - 1) = k + i by omega]
          exact hAE.1
        · rw [if_neg (by omega), HH.out]
          exact ⟨_, _, _, rfl⟩⟩
end
end Go.Proofs.YtkbeemkmcnfiiaaGreatDoor
