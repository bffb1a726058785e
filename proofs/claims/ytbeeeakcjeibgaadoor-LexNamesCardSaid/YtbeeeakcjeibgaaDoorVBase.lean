/- What the contracts of this layer share: strings.HasPrefix, strings.IndexByte, strings.Clone, strconv.ParseInt at this translation; the tables and the two errors that are read; small laws on blocks. -/
import Derived.Test.YtbeeeakcjeibgaaDoorFold
import Derived.Test.YtbeeeakcjeibgaaDoorMem
import Derived.Test.YtbeeeakcjeibgaaDoorVShow
import Derived.Shelf.Strconv.ErrVarParseInt
import Derived.Shelf.Strconv.Clone
import Derived.Shelf.Strings.Prefix
import Derived.Shelf.Small.Strs
import Derived.Shelf.Small.Wraps
import Derived.WalkLawsBesides
import Derived.Lib.SmallJoins
namespace Go.Proofs.YtbeeeakcjeibgaaDoor
open Go.RowKit

theorem hasPrefix_any (s p : ByteArray) (w : World) :
    Calls Tryd.prog 58 #[.string s, .string p] w fun e w' => e = .returned (.bool (Lib.hasPrefix s.data.toList p.data.toList)) ∧ w' = w :=
  Any.strings_HasPrefix Tryd.more99 s p w
theorem indexByte_any (s : ByteArray) (c : Int) (w : World) :
    Calls Tryd.prog 59 #[.string s, .int .u8 c] w fun e w' => e = .returned (.int .i64 (Lib.indexByte s.data.toList c.toNat.toUInt8)) ∧ w' = w :=
  Any.strings_IndexByte Tryd.more137 s c w

theorem size_list (s : ByteArray) : s.data.toList.length = s.size := (Lib.size_eq s).symm
theorem str_nil (s : ByteArray) : s.data.toList = [] ↔ s.size = 0 := by
  rw [← size_list]; exact (List.length_eq_zero_iff).symm
theorem emp (s : ByteArray) : s.toList.isEmpty = decide (s.data.toList = []) := by
  rw [← decide_eq_emptyBytes]
  refine decide_eq_decide.2 ⟨fun h => by rw [h]; rfl, fun h => ?_⟩
  obtain ⟨⟨l⟩⟩ := s
  simp at h; subst h; rfl
theorem cells_of_alloc (w : World) (cs : Array Value) (t : TypeId) (i : Nat) : (w.alloc (.cells cs t)).cell? ⟨w.heap.size, i, none⟩ = cs[i]? := by
  rw [Lib.cell_of_heap (alloc_at w _)]
theorem below_alloc (w : World) (o : Obj) : Below w.heap.size w (w.alloc o) := (Below.refl _ _).alloc (Nat.le_refl _) _
/-- A block of three cells of the call's own. -/
structure Three (w : World) (g : Nat) (a b c : Value) : Prop where
  lt : g < w.heap.size
  c0 : w.cell? ⟨g, 0, none⟩ = some a
  c1 : w.cell? ⟨g, 1, none⟩ = some b
  c2 : w.cell? ⟨g, 2, none⟩ = some c
  f0 : w.frozen? ⟨g, 0, none⟩ = false
  f1 : w.frozen? ⟨g, 1, none⟩ = false
  f2 : w.frozen? ⟨g, 2, none⟩ = false
theorem Three.later {w w' : World} {g : Nat} {a b c : Value} (h : Three w g a b c) (hb : Below w.heap.size w w') : Three w' g a b c :=
  ⟨Nat.lt_of_lt_of_le h.lt hb.size, (hb.cell (p := ⟨g, 0, none⟩) h.lt).trans h.c0, (hb.cell (p := ⟨g, 1, none⟩) h.lt).trans h.c1, (hb.cell (p := ⟨g, 2, none⟩) h.lt).trans h.c2,
    (hb.frozen (p := ⟨g, 0, none⟩) h.lt).trans h.f0, (hb.frozen (p := ⟨g, 1, none⟩) h.lt).trans h.f1, (hb.frozen (p := ⟨g, 2, none⟩) h.lt).trans h.f2⟩
theorem Three.alloc {w : World} {g : Nat} {a b c : Value} (h : Three w g a b c) (o : Obj) : Three (w.alloc o) g a b c := h.later (below_alloc w o)
theorem Three.drew {w : World} {g : Nat} {a b c : Value} (h : Three w g a b c) : Three w.drew g a b c := ⟨h.lt, h.c0, h.c1, h.c2, h.f0, h.f1, h.f2⟩
theorem Three.set {w : World} {g : Nat} {a b c : Value} (h : Three w g a b c) (u v z : Value) : Three (((w.setCell ⟨g, 0, none⟩ u).setCell ⟨g, 1, none⟩ v).setCell ⟨g, 2, none⟩ z) g u v z := by
  obtain ⟨hl, h0, h1, h2, f0, f1, f2⟩ := h
  refine ⟨by simpa using hl, ?_, ?_, ?_, ?_, ?_, ?_⟩
  all_goals simp [h0, h1, h2, f0, f1, f2, go_sem]
theorem three_new (w : World) (a b c : Value) (t : TypeId) : Three (w.alloc (.cells #[a, b, c] t)) w.heap.size a b c := by
  have hk : w.heap.size < (w.alloc (.cells #[a, b, c] t)).heap.size := by rw [alloc_size]; omega
  refine ⟨hk, ?_, ?_, ?_, ?_, ?_, ?_⟩
  · rw [cells_of_alloc]; rfl
  · rw [cells_of_alloc]; rfl
  · rw [cells_of_alloc]; rfl
  all_goals simp
theorem three_later {w w1 : World} {a b c : Value} {t : TypeId} (hb : Below (w.alloc (.cells #[a, b, c] t)).heap.size (w.alloc (.cells #[a, b, c] t)) w1) : Three w1 w.heap.size a b c := (three_new w a b c t).later hb
theorem below_to {w w0 w1 : World} (h : Below w.heap.size w w0) (hb : Below w0.heap.size w0 w1) : Below w.heap.size w w1 := h.trans (hb.mono h.size)
theorem clone_any (s : ByteArray) (w : World) (h : s.size ≤ 281474976710656) :
    Calls Tryd.prog 42 #[.string s] w fun e w' => e = .returned (.string s) ∧ Below w.heap.size w w' := by
  have c := fun w => Any.stringslite_Clone Tryd.more316 s w h
  go_enter Tryd.func42, Tryd.ntmps42
  go_wp2_with fail
  refine (c _).mono ?_
  rintro e w1 ⟨rfl, hb⟩
  go_wp2
  go_ret
  exact ⟨rfl, hb⟩
section
open Go.Lib Go.Shelf
/-- The two errors are there. -/
structure Errs (w : World) : Prop where
  syn : ∃ t p, w.cell? ⟨0, 0, none⟩ = some (.iface t p)
  rng : ∃ t p, w.cell? ⟨1, 0, none⟩ = some (.iface t p)
structure Env7 (w : World) : Prop where
  tabs : Tabs w
  errs : Errs w
theorem Errs.later {w w' : World} (h : Errs w) (hb : Below w.heap.size w w') : Errs w' := by
  obtain ⟨⟨t, p, h1⟩, ⟨u, q, h2⟩⟩ := h
  exact ⟨⟨t, p, (hb.cell (p := ⟨0, 0, none⟩) (lt_of_cell h1)).trans h1⟩, ⟨u, q, (hb.cell (p := ⟨1, 0, none⟩) (lt_of_cell h2)).trans h2⟩⟩
theorem Env7.later {w w' : World} (h : Env7 w) (hb : Below w.heap.size w w') : Env7 w' := ⟨h.tabs.later hb, h.errs.later hb⟩

theorem parse_lo {l : List UInt8} {v : Int} (h : parseIntB 64 l = .ok v) : -9223372036854775808 ≤ v ∧ v ≤ 9223372036854775807 := by
  cases l with
  | nil => simp [parseIntB] at h
  | cons c r =>
    simp only [parseIntB] at h
    split at h
    · cases h
    · cases h
    · split at h
      · cases h
      · split at h
        · cases h
        · rename_i h1 h2
          injection h with h
          by_cases hn : c.toNat = 45
          · rw [if_pos hn] at h; omega
          · rw [if_neg hn] at h; omega
theorem parse_any (t : ByteArray) (w : World) (hs : t.size ≤ 1099511627776) (hE : Errs w) :
    Calls Tryd.prog 41 #[.string t, .int .i64 10, .int .i64 64] w fun e w' => ((∃ v, parseIntB 64 t.data.toList = .ok v ∧ e = .returned (.tuple #[.int .i64 v, .nilIface])) ∨ (∃ v u a, (∀ z, parseIntB 64 t.data.toList ≠ .ok z) ∧ e = .returned (.tuple #[.int .i64 v, .iface u (.pointer (some a))]))) ∧ Below w.heap.size w w' := by
  obtain ⟨⟨u, p, h1⟩, ⟨q, r, h2⟩⟩ := hE
  cases hp : parseIntB 64 t.data.toList with
  | ok v =>
    refine (Any.strconv_ParseInt_10_at64_ok Tryd.more174 t (by omega) v hp w).mono ?_
    rintro e w' ⟨rfl, h | ⟨x, h⟩⟩
    · exact ⟨.inl ⟨v, rfl, rfl⟩, h ▸ Below.refl _ _⟩
    · exact ⟨.inl ⟨v, rfl, rfl⟩, by rw [h]; exact Go.Joins.below_bytesWorld _ _ _ _ (Nat.le_refl _)⟩
  | range =>
    refine (Any.strconv_ParseInt_10_at64_range Tryd.more174 t (by omega) hp _ w h2 (Or.inr ⟨_, _, rfl⟩)).mono ?_
    rintro e w' ⟨N, rfl, -, -, hb⟩
    exact ⟨.inr ⟨_, _, _, (fun z h => by cases h), rfl⟩, hb⟩
  | _ =>
    refine (Any.strconv_ParseInt_10_at64_syntax Tryd.more174 t (by omega) hp _ w h1 (Or.inr ⟨_, _, rfl⟩)).mono ?_
    rintro e w' ⟨N, rfl, -, -, hb⟩
    exact ⟨.inr ⟨_, _, _, (fun z h => by cases h), rfl⟩, hb⟩
end
end Go.Proofs.YtbeeeakcjeibgaaDoor
