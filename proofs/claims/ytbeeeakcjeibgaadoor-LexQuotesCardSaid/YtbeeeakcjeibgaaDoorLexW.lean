/- Plain mathematics: how far a formula is read, piece by piece, token by token; the rows that tokens lie in. -/
import Derived.Test.YtbeeeakcjeibgaaDoorLexV
import Derived.Test.YtbeeeakcjeibgaaDoorLexM
namespace Go.Proofs.YtbeeeakcjeibgaaDoor
open Go.RowKit

abbrev LexZ := Except Nat (List Tk)
/-- How far a formula is read. -/
def LexAt (t : ByteArray) (P : List Pc) (Z : LexZ) (pos : Nat) (C Y : List Pc) (next : Nat) (ts : List Tk) : Prop :=
  At t P pos C Y ∧ ∃ m, Skip Y pos next m ∧ ts.length ≤ C.length + m ∧ Z = ahead ts (lexR (Y.drop m) (pos + (flat (Y.take m)).length))
section
variable {t : ByteArray} {P : List Pc} {Z : LexZ} {pos next : Nat} {C Y : List Pc} {x : Pc} {ts : List Tk}
theorem LexAt.start (h : pcs t.data.toList = P) : LexAt t P (lexR P 0) 0 [] P 0 [] :=
  ⟨At.start t P h, 0, Skip.zero (Nat.le_refl _), Nat.le_refl _, by rw [List.drop_zero, List.take_zero, flat_nil, ahead_nil]; rfl⟩
theorem LexAt.skip (h : LexAt t P Z pos C (x :: Y) next ts) (hP : Pcd P) (hn : pos < next) : LexAt t P Z (pos + x.2.length) (C ++ [x]) Y next ts := by
  obtain ⟨hA, m, h1, h2, h3⟩ := h
  obtain ⟨m, rfl, hS⟩ := h1.step hn
  refine ⟨hA.one hP, m, hS, by rw [List.length_append, List.length_singleton]; omega, ?_⟩
  rw [h3, List.drop_succ_cons, List.take_succ_cons, flat_cons, List.length_append, Nat.add_assoc]
theorem LexAt.blank (h : LexAt t P Z pos C (x :: Y) next ts) (hP : Pcd P) (hn : ¬ pos < next) (hc : classZ (x.1 : Int) = 3) : LexAt t P Z (pos + x.2.length) (C ++ [x]) Y next ts := by
  obtain ⟨hA, m, h1, h2, h3⟩ := h
  obtain rfl := h1.none (hA.fitY hP) hn
  refine ⟨hA.one hP, 0, Skip.zero (by omega), by rw [List.length_append, List.length_singleton]; omega, ?_⟩
  rw [h3, List.drop_zero, List.take_zero, flat_nil, lexR_blank x Y _ hc, List.drop_zero, List.take_zero, flat_nil]
  rfl
theorem LexAt.none (h : LexAt t P Z pos C (x :: Y) next ts) (hP : Pcd P) (hn : ¬ pos < next) (hc : classZ (x.1 : Int) ≠ 3) (hf : tokF x Y = none) : Z = .error pos := by
  obtain ⟨hA, m, h1, h2, h3⟩ := h
  obtain rfl := h1.none (hA.fitY hP) hn
  rw [h3, List.drop_zero, List.take_zero, flat_nil, lexR_none x Y _ hc hf]
  rfl
theorem LexAt.some (h : LexAt t P Z pos C (x :: Y) next ts) (hP : Pcd P) (hn : ¬ pos < next) (hc : classZ (x.1 : Int) ≠ 3) {f : Fd} (hf : tokF x Y = some f) :
    LexAt t P Z (pos + x.2.length) (C ++ [x]) Y (pos + (flat (x :: Y.take f.j)).length) (ts ++ [f.tk pos]) := by
  obtain ⟨hA, m, h1, h2, h3⟩ := h
  obtain rfl := h1.none (hA.fitY hP) hn
  have hj := tokF_len hf
  refine ⟨hA.one hP, f.j, ⟨hj, ?_⟩, by simp only [List.length_append, List.length_singleton]; omega, ?_⟩
  · rw [flat_cons, List.length_append]
    rcases Nat.eq_zero_or_pos f.j with h0 | h0
    · rw [h0, List.take_zero, flat_nil]
      exact .inl ⟨rfl, by simp⟩
    · exact .inr ⟨h0, by omega⟩
  · rw [h3, List.drop_zero, List.take_zero, flat_nil, lexR_some x Y _ hc f hf, ahead_ahead, flat_cons, List.length_append]
    show ahead (ts ++ [f.tk (pos + 0)]) _ = _
    rw [Nat.add_zero]
    congr 2
    show pos + 0 + _ = _
    omega
theorem LexAt.over (h : LexAt t P Z pos C [] next ts) : Z = .ok ts := by
  obtain ⟨hA, m, h1, h2, h3⟩ := h
  rw [h3, List.drop_nil, lexR_nil]
  simp [ahead]
theorem LexAt.few (h : LexAt t P Z pos C Y next ts) (hP : pcs t.data.toList = P) : ts.length ≤ t.size := by
  obtain ⟨hA, m, h1, h2, h3⟩ := h
  have hPc : Pcd P := hP ▸ Pcd.of _
  have hl := flat_len hPc.fit
  rw [← hP, flat_pcs, size_list, hP, ← hA.1, List.length_append] at hl
  have := h1.1
  omega
end

/- ### Rows of tokens -/
def tkC (t : Tk) : List Value := [.int .i64 (t.k : Int), .string ⟨t.s.toArray⟩, .int .i64 (t.n : Int), .int .i64 (t.a : Int)]
def tkCells (ts : List Tk) : List Value := ts.flatMap tkC
theorem tkCells_snoc (ts : List Tk) (t : Tk) : tkCells (ts ++ [t]) = tkCells ts ++ tkC t := by simp [tkCells]
theorem tkCells_len (ts : List Tk) : (tkCells ts).length = ts.length * 4 := by
  induction ts with
  | nil => rfl
  | cons t ts ih =>
    have e : tkCells (t :: ts) = tkC t ++ tkCells ts := by simp [tkCells]
    rw [e, List.length_append, ih, List.length_cons]
    show 4 + _ = _
    omega
theorem tkCells_at : ∀ (ts : List Tk) (i : Nat) (t : Tk), ts[i]? = some t → ∀ j, j < 4 → (tkCells ts)[i * 4 + j]? = (tkC t)[j]?
  | [], i, t, h, _, _ => by simp at h
  | u :: ts, 0, t, h, j, hj => by
    obtain rfl : u = t := by simpa using h
    have e : tkCells (u :: ts) = tkC u ++ tkCells ts := by simp [tkCells]
    rw [e, Nat.zero_mul, Nat.zero_add]
    exact List.getElem?_append_left (show j < 4 from hj)
  | u :: ts, i + 1, t, h, j, hj => by
    have e : tkCells (u :: ts) = tkC u ++ tkCells ts := by simp [tkCells]
    rw [e, List.getElem?_append_right (by show 4 ≤ _; omega)]
    have := tkCells_at ts i t (by simpa using h) j hj
    show (tkCells ts)[(i + 1) * 4 + j - 4]? = _
    rw [show (i + 1) * 4 + j - 4 = i * 4 + j by omega, this]
/-- Tokens that lie somewhere. -/
def TkAt (w : World) (ao : Option Addr) (ts : List Tk) : Prop := 0 < ts.length → ∃ g, ao = some ⟨g, 0, none⟩ ∧ g < w.heap.size ∧ ∀ i t, ts[i]? = some t →
  w.cell? ⟨g, i * 4, none⟩ = some (.int .i64 (t.k : Int)) ∧ w.cell? ⟨g, i * 4 + 1, none⟩ = some (.string ⟨t.s.toArray⟩) ∧ w.cell? ⟨g, i * 4 + 2, none⟩ = some (.int .i64 (t.n : Int)) ∧ w.cell? ⟨g, i * 4 + 3, none⟩ = some (.int .i64 (t.a : Int))
theorem TkAt.later {w w' : World} {ao : Option Addr} {ts : List Tk} (h : TkAt w ao ts) (hb : Below w.heap.size w w') : TkAt w' ao ts := fun h0 => by
  obtain ⟨g, h1, h2, h3⟩ := h h0
  refine ⟨g, h1, Nat.lt_of_lt_of_le h2 hb.size, fun i t ht => ?_⟩
  obtain ⟨a, b, c, d⟩ := h3 i t ht
  exact ⟨(hb.cell (p := ⟨g, i * 4, none⟩) h2).trans a, (hb.cell (p := ⟨g, i * 4 + 1, none⟩) h2).trans b, (hb.cell (p := ⟨g, i * 4 + 2, none⟩) h2).trans c, (hb.cell (p := ⟨g, i * 4 + 3, none⟩) h2).trans d⟩
theorem tk_slice {w : World} {B : Nat} {e : TypeId} {v : Value} {ts : List Tk} (h : w.ownsRow B e 4 v ts.length (tkCells ts)) :
    ∃ ao cap, v = .slice ao ts.length cap ∧ ts.length ≤ cap ∧ TkAt w ao ts := by
  have h' := h
  rcases h.2 with ⟨rfl, hn⟩ | ⟨g, cap, cur, rfl, hbg, hg, hnc, hcm, rest⟩
  · exact ⟨none, 0, by rw [hn], by omega, fun hp => absurd hp (by omega)⟩
  · refine ⟨_, cap, rfl, hnc, fun _ => ⟨g, rfl, (Array.getElem?_eq_some_iff.1 hg).1, fun k x hx => ?_⟩⟩
    have hc : ∀ j u, (tkCells ts)[j]? = some u → w.cell? ⟨g, j, none⟩ = some u := fun j u hu => by
      have := h'.cells (g := g) rfl j u hu
      have e : (⟨g, 0, none⟩ : Addr).add j = ⟨g, j, none⟩ := by unfold Addr.add; split <;> simp_all
      rwa [e] at this
    have hk := fun j (hj : j < 4) => tkCells_at ts k x hx j hj
    exact ⟨hc _ _ (hk 0 (by omega)), hc _ _ (hk 1 (by omega)), hc _ _ (hk 2 (by omega)), hc _ _ (hk 3 (by omega))⟩
/-- The end's token. -/
def endT (n : Nat) : Tk := ⟨0, [], 0, n⟩
/-- What Lex tells of a text. -/
def LexEnd (s : ByteArray) (w : World) (e : Ending) (w' : World) : Prop :=
  Below w.heap.size w w' ∧
  if 400 < s.size then e = .returned (.tuple #[.slice none 0 0, .int .i64 400, .int .i64 7])
  else match lexL s.data.toList with
    | .error p => e = .returned (.tuple #[.slice none 0 0, .int .i64 (p : Int), .int .i64 5])
    | .ok ts => ∃ ao cap, e = .returned (.tuple #[.slice ao (ts.length + 1 : Nat) cap, .int .i64 0, .int .i64 0]) ∧ ts.length + 1 ≤ cap ∧ TkAt w' ao (ts ++ [endT s.size])
end Go.Proofs.YtbeeeakcjeibgaaDoor
