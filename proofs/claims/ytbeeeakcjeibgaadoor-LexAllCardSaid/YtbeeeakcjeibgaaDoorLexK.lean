/- The document's own lexer: a number. -/
import Derived.Test.YtbeeeakcjeibgaaDoorLexL
import Derived.Deep.Cut
import Derived.Deep.LoopGhost
import Derived.IntWalk
namespace Go.Proofs.YtbeeeakcjeibgaaDoor
open Go.RowKit

/-- What the lexer tells of a piece: the token, and goes on behind it; or that there is none. -/
def LTok (w : World) (g : Nat) (t : ByteArray) (P : List Pc) (ao : Option Addr) (cap k : Nat) (o : Option Fd) (e : Ending) (w' : World) : Prop :=
  Away g w w' ∧ match o with
  | none => ∃ (K : Int) (S : ByteArray) (n : Int), e = .returned (.tuple #[T4 K S n ((flat (P.take k)).length : Int), .bool false])
  | some f => e = .returned (.tuple #[T4 f.k ⟨f.s.toArray⟩ f.n ((flat (P.take k)).length : Int), .bool true]) ∧ LR w' g t P ao cap (k + 1 + f.j)
/-- A block of four cells that the call has made, and its answer's. -/
structure Two4 (w0 w : World) (b c : Nat) (k s n a : Value) : Prop where
  lo : w0.heap.size ≤ b
  lo2 : w0.heap.size ≤ c
  ne : b ≠ c
  t : Four w b k s n a
  r : Four w c (.int .i64 0) (.string ⟨#[]⟩) (.int .i64 0) (.int .i64 0)
theorem Two4.later {w0 w w' : World} {b c : Nat} {k s n a : Value} (h : Two4 w0 w b c k s n a) (hb : Below w.heap.size w w') : Two4 w0 w' b c k s n a := ⟨h.lo, h.lo2, h.ne, h.t.later hb, h.r.later hb⟩
theorem Two4.away {w0 w w' : World} {g b c : Nat} {k s n a : Value} (h : Two4 w0 w b c k s n a) (hb : Away g w w') (hg : g < w0.heap.size) : Two4 w0 w' b c k s n a :=
  ⟨h.lo, h.lo2, h.ne, h.t.away hb (by have := h.lo; omega), h.r.away hb (by have := h.lo2; omega)⟩
theorem Four.other {w : World} {g b i : Nat} {x1 x2 x3 x4 u : Value} (h : Four w g x1 x2 x3 x4) (hn : b ≠ g) : Four (w.setCell ⟨b, i, none⟩ u) g x1 x2 x3 x4 := by
  have ho : ∀ (q : Addr), q.block = g → (w.setCell ⟨b, i, none⟩ u).cell? q = w.cell? q := fun q hq => World.cell?_of_block (w := w) (Below.heap_setCell _ _ _ _ (by rw [hq]; exact fun e => hn e.symm))
  have hf : ∀ (q : Addr), q.block = g → (w.setCell ⟨b, i, none⟩ u).frozen? q = w.frozen? q := fun q hq => World.frozen?_of_block (w := w) (Below.heap_setCell _ _ _ _ (by rw [hq]; exact fun e => hn e.symm))
  obtain ⟨hl, h0, h1, h2, h3, f0, f1, f2, f3⟩ := h
  exact ⟨by simpa [World.setCell] using hl, (ho _ rfl).trans h0, (ho _ rfl).trans h1, (ho _ rfl).trans h2, (ho _ rfl).trans h3, (hf _ rfl).trans f0, (hf _ rfl).trans f1, (hf _ rfl).trans f2, (hf _ rfl).trans f3⟩
theorem Four.set2 {w : World} {g : Nat} {a b c d : Value} (h : Four w g a b c d) (y : Value) : Four (w.setCell ⟨g, 2, none⟩ y) g a b y d := by
  obtain ⟨hl, h0, h1, h2, h3, f0, f1, f2, f3⟩ := h
  refine ⟨by simpa using hl, ?_, ?_, ?_, ?_, ?_, ?_, ?_, ?_⟩
  all_goals simp [h0, h1, h2, h3, f0, f1, f2, f3, go_sem]
theorem Four.set1 {w : World} {g : Nat} {a b c d : Value} (h : Four w g a b c d) (y : Value) : Four (w.setCell ⟨g, 1, none⟩ y) g a y c d := by
  obtain ⟨hl, h0, h1, h2, h3, f0, f1, f2, f3⟩ := h
  refine ⟨by simpa using hl, ?_, ?_, ?_, ?_, ?_, ?_, ?_, ?_⟩
  all_goals simp [h0, h1, h2, h3, f0, f1, f2, f3, go_sem]

theorem LA.q {w0 w : World} {g : Nat} {t : ByteArray} {P : List Pc} {ao : Option Addr} {cap k : Nat} (h : LA w0 w g t P ao cap k) (q : Nat) : LA w0 (w.drewN q) g t P ao cap k := h.later (below_still ⟨q, rfl⟩)
theorem LA.goes {w0 w : World} {g : Nat} {t : ByteArray} {P : List Pc} {ao : Option Addr} {cap k n : Nat} {z : Int} (h : LA w0 w g t P ao cap k) (hn : n ≤ P.length) (hz : z = (n : Int)) : LA w0 (w.setCell ⟨g, 2, none⟩ (.int .i64 z)) g t P ao cap n := by
  subst hz; exact h.set hn
theorem Two4.q {w0 w : World} {b c : Nat} {k s n a : Value} (h : Two4 w0 w b c k s n a) (q : Nat) : Two4 w0 (w.drewN q) b c k s n a := h.later (below_still ⟨q, rfl⟩)
theorem Two4.goes {w0 w : World} {g b c : Nat} {k s n a : Value} (h : Two4 w0 w b c k s n a) (hg : g < w0.heap.size) (u : Value) : Two4 w0 (w.setCell ⟨g, 2, none⟩ u) b c k s n a := h.away ((Away.refl g w).set 2 u) hg
theorem Two4.num {w0 w : World} {b c : Nat} {k s n a : Value} (h : Two4 w0 w b c k s n a) (u : Value) : Two4 w0 (w.setCell ⟨b, 2, none⟩ u) b c k s u a := ⟨h.lo, h.lo2, h.ne, h.t.set2 u, h.r.other h.ne⟩
theorem Two4.str {w0 w : World} {b c : Nat} {k s n a : Value} (h : Two4 w0 w b c k s n a) (u : Value) : Two4 w0 (w.setCell ⟨b, 1, none⟩ u) b c k u n a := ⟨h.lo, h.lo2, h.ne, h.t.set1 u, h.r.other h.ne⟩
theorem LTok.no {w w' : World} {g : Nat} {t : ByteArray} {P : List Pc} {ao : Option Addr} {cap k here : Nat} {o : Option Fd} (h : Away g w w') (K : Int) (S : ByteArray) (n : Int) (hh : (flat (P.take k)).length = here) (ho : o = none) :
    LTok w g t P ao cap k o (.returned (.tuple #[T4 K S n (here : Int), .bool false])) w' := by
  subst ho hh; exact ⟨h, _, _, _, rfl⟩
theorem LTok.yes {w w' : World} {g : Nat} {t : ByteArray} {P : List Pc} {ao : Option Addr} {cap k n here : Nat} {o : Option Fd} {f : Fd} (h : LA w w' g t P ao cap n) (hh : (flat (P.take k)).length = here) (ho : o = some f) (hn : n = k + 1 + f.j) :
    LTok w g t P ao cap k o (.returned (.tuple #[T4 f.k ⟨f.s.toArray⟩ f.n (here : Int), .bool true])) w' := by
  subst ho hh hn; exact ⟨h.2.1, rfl, h.1⟩
theorem LA.fin {w0 w : World} {g : Nat} {t : ByteArray} {P : List Pc} {ao : Option Addr} {cap k c : Nat} (h : LA w0 w g t P ao cap k) (hc : w0.heap.size ≤ c) (x1 x2 x3 x4 : Value) : LA w0 ((((w.setCell ⟨c, 0, none⟩ x1).setCell ⟨c, 1, none⟩ x2).setCell ⟨c, 2, none⟩ x3).setCell ⟨c, 3, none⟩ x4) g t P ao cap k :=
  (((h.put hc 0 x1).put hc 1 x2).put hc 2 x3).put hc 3 x4
/-- How far a number is read. -/
def NumAt (D : List Pc) (i N : Nat) (ok : Bool) : Prop :=
  i ≤ D.length ∧ N < 9223372036854775808 ∧ ((ok = true ∧ N = valN (flat (D.take i))) ∨ (ok = false ∧ 9223372036854775808 ≤ valN (flat (D.take i))))
theorem valN_next {D : List Pc} {i : Nat} {x : Pc} (hx : D[i]? = some x) (hf : Fit x) (hc : 48 ≤ x.1 ∧ x.1 ≤ 57) : valN (flat (D.take (i + 1))) = valN (flat (D.take i)) * 10 + (x.1 - 48) := by
  rw [List.take_add_one, hx, flat_append]
  show valN (_ ++ flat [x]) = _
  rw [flat_cons, flat_nil, List.append_nil, hf.one (by omega), valN_snoc, u8_nat _ (by omega)]
theorem NumAt.over {D : List Pc} {i N : Nat} {ok : Bool} {x : Pc} (h : NumAt D i N ok) (hx : D[i]? = some x) (hf : Fit x) (hc : 48 ≤ x.1 ∧ x.1 ≤ 57) (hN : (9223372036854775807 - (x.1 - 48)) / 10 < N) : NumAt D (i + 1) N false := by
  have hv := valN_next hx hf hc
  obtain ⟨h1, h2, h3⟩ := h
  refine ⟨(List.getElem?_eq_some_iff.1 hx).1, h2, .inr ⟨rfl, ?_⟩⟩
  rw [hv]
  rcases h3 with ⟨-, h4⟩ | ⟨-, h4⟩
  · rw [← h4]; omega
  · omega
theorem NumAt.more {D : List Pc} {i N : Nat} {ok : Bool} {x : Pc} (h : NumAt D i N ok) (hx : D[i]? = some x) (hf : Fit x) (hc : 48 ≤ x.1 ∧ x.1 ≤ 57) (hN : ¬ (9223372036854775807 - (x.1 - 48)) / 10 < N) : N * 10 + (x.1 - 48) < 9223372036854775808 ∧ NumAt D (i + 1) (N * 10 + (x.1 - 48)) ok := by
  have hv := valN_next hx hf hc
  obtain ⟨h1, h2, h3⟩ := h
  have hb : N * 10 + (x.1 - 48) < 9223372036854775808 := by omega
  refine ⟨hb, (List.getElem?_eq_some_iff.1 hx).1, hb, ?_⟩
  rcases h3 with ⟨h5, h4⟩ | ⟨h5, h4⟩
  · exact .inl ⟨h5, by rw [hv, ← h4]⟩
  · exact .inr ⟨h5, by rw [hv]; omega⟩
theorem dig_in {x : Pc} (h : classZ (x.1 : Int) = 2) : 48 ≤ x.1 ∧ x.1 ≤ 57 := by
  rcases class_cases (x.1 : Int) with ⟨_, h⟩ | ⟨h, _⟩ | ⟨h, _⟩ | ⟨h, _⟩
  · omega
  all_goals omega
/-- Pieces of one kind from a place on. -/
theorem run_at {P : List Pc} {p : Pc → Bool} {k : Nat} {D : List Pc} (hD : (P.drop k).takeWhile p = D) (i : Nat) : (∀ (h : i < D.length), P.drop (k + i) = D[i] :: P.drop (k + i + 1) ∧ p D[i] = true) ∧ (i = D.length → ∀ y, (P.drop (k + i)).head? = some y → p y = false) := by
  have hpre : D <+: P.drop k := hD ▸ List.takeWhile_prefix p
  obtain ⟨E, hE⟩ := hpre
  constructor
  · intro h
    have hg : P[k + i]? = some D[i] := by
      rw [← List.getElem?_drop, ← hE, List.getElem?_append_left h]
      exact List.getElem?_eq_getElem h
    refine ⟨drop_at hg, ?_⟩
    have := List.all_eq_true.1 (List.all_takeWhile (p := p) (l := P.drop k)) D[i] (by rw [hD]; exact List.getElem_mem h)
    exact this
  · rintro rfl y hy
    have he : P.drop (k + D.length) = E := by rw [← List.drop_drop, ← hE, List.drop_left]
    rw [he] at hy
    cases hpy : p y with
    | false => rfl
    | true =>
      cases E with
      | nil => cases hy
      | cons z E =>
        simp only [List.head?_cons, Option.some.injEq] at hy
        subst hy
        have h2 := hD
        rw [← hE, List.takeWhile_append] at h2
        have hall : D.takeWhile p = D := by
          have := List.takeWhile_append_of_pos (p := p) (l₁ := D) (l₂ := []) (fun z hz => List.all_eq_true.1 (List.all_takeWhile (p := p) (l := P.drop k)) z (by rw [hD]; exact hz))
          simpa using this
        rw [hall, if_pos rfl, List.takeWhile_cons_of_pos hpy] at h2
        have := congrArg List.length h2
        simp at this
end Go.Proofs.YtbeeeakcjeibgaaDoor
