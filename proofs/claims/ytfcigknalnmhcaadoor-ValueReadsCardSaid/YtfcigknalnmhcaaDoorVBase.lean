/- What the contracts of this layer share: the tables of the library that are read (unicode/utf8's two, strconv's powers of ten); strconv.FormatInt, strconv.FormatBool, strings.HasPrefix at this translation. -/
import Derived.Test.YtfcigknalnmhcaaDoorFold
import Derived.Test.YtfcigknalnmhcaaDoorMem
import Derived.Test.YtfcigknalnmhcaaDoorVShow
import Derived.Shelf.Strconv.Itoa4
import Derived.Lib.AppendIntMem
import Derived.Shelf.Strings.Prefix
import Derived.Shelf.Small.Strs
import Derived.Shelf.Small.Wraps
import Derived.WalkLawsBesides
namespace Go.Proofs.YtfcigknalnmhcaaDoor
open Go.RowKit

def Pow (w : World) : Prop := Lib.TabIs Tryd.prog w "internal/strconv.uint64pow10" .u64 Lib.pow10Tab
theorem Pow.later {w w' : World} (h : Pow w) (hb : Below w.heap.size w w') : Pow w' := Lib.tabBelow_of_tabIs h w' hb
/-- The tables that are read hold what their texts lay. -/
structure Env (w : World) : Prop where
  tabs : Tabs w
  pow : Pow w
theorem Env.later {w w' : World} (h : Env w) (hb : Below w.heap.size w w') : Env w' := ⟨h.tabs.later hb, h.pow.later hb⟩

theorem formatInt_any (n : Int) (h0 : -9223372036854775808 ≤ n) (h1 : n ≤ 9223372036854775807) (w : World) (hP : Pow w) :
    Calls Tryd.prog 54 #[.int .i64 n, .int .i64 10] w fun e w' => e = .returned (.string ⟨(Lib.itoa n).toArray⟩) ∧ Below w.heap.size w w' :=
  (Any.strconv_FormatInt_10 Tryd.more173 n h0 h1 w hP).mono fun _ _ ⟨he, _, _, hw⟩ => ⟨he, hw ▸ Lib.below_grow w.heap.size w (Nat.le_refl _) _ _⟩
theorem formatBool_any (b : Bool) (w : World) :
    Calls Tryd.prog 55 #[.bool b] w fun e w' => e = .returned (.string ⟨(Lib.formatBool b).toArray⟩) ∧ w' = w :=
  Any.strconv_FormatBool Tryd.more121 b w
theorem hasPrefix_any (s p : ByteArray) (w : World) :
    Calls Tryd.prog 85 #[.string s, .string p] w fun e w' => e = .returned (.bool (Lib.hasPrefix s.data.toList p.data.toList)) ∧ w' = w :=
  Any.strings_HasPrefix Tryd.more99 s p w
theorem indexByte_any (s : ByteArray) (c : Int) (w : World) :
    Calls Tryd.prog 112 #[.string s, .int .u8 c] w fun e w' => e = .returned (.int .i64 (Lib.indexByte s.data.toList c.toNat.toUInt8)) ∧ w' = w :=
  Any.strings_IndexByte Tryd.more137 s c w

/-- A value as it stands in memory, or comes in. -/
abbrev V3 (K n : Int) (s : ByteArray) : Value := .agg #[.int .i64 K, .int .i64 n, .string s]
theorem size_list (s : ByteArray) : s.data.toList.length = s.size := (Lib.size_eq s).symm
theorem str_nil (s : ByteArray) : s.data.toList = [] ↔ s.size = 0 := by
  rw [← size_list]; exact (List.length_eq_zero_iff).symm
theorem emp (s : ByteArray) : s.toList.isEmpty = decide (s.data.toList = []) := by
  rw [← decide_eq_emptyBytes]
  refine decide_eq_decide.2 ⟨fun h => by rw [h]; rfl, fun h => ?_⟩
  obtain ⟨⟨l⟩⟩ := s
  simp at h; subst h; rfl
theorem cells_of_alloc (w : World) (cs : Array Value) (t : TypeId) (i : Nat) : (w.alloc (.cells cs t)).cell? ⟨w.heap.size, i, none⟩ = cs[i]? := by
  rw [Lib.cell_of_heap (alloc_at w _)]
theorem below_alloc (w : World) (o : Obj) : Below w.heap.size w (w.alloc o) := (Below.refl _ _).alloc (Nat.le_refl _) _
/-- A block of three cells of the call's own. -/
structure Three (w : World) (g : Nat) (a b c : Value) : Prop where
  lt : g < w.heap.size
  c0 : w.cell? ⟨g, 0, none⟩ = some a
  c1 : w.cell? ⟨g, 1, none⟩ = some b
  c2 : w.cell? ⟨g, 2, none⟩ = some c
  f0 : w.frozen? ⟨g, 0, none⟩ = false
  f1 : w.frozen? ⟨g, 1, none⟩ = false
  f2 : w.frozen? ⟨g, 2, none⟩ = false
theorem Three.later {w w' : World} {g : Nat} {a b c : Value} (h : Three w g a b c) (hb : Below w.heap.size w w') : Three w' g a b c :=
  ⟨Nat.lt_of_lt_of_le h.lt hb.size, (hb.cell (p := ⟨g, 0, none⟩) h.lt).trans h.c0, (hb.cell (p := ⟨g, 1, none⟩) h.lt).trans h.c1, (hb.cell (p := ⟨g, 2, none⟩) h.lt).trans h.c2,
    (hb.frozen (p := ⟨g, 0, none⟩) h.lt).trans h.f0, (hb.frozen (p := ⟨g, 1, none⟩) h.lt).trans h.f1, (hb.frozen (p := ⟨g, 2, none⟩) h.lt).trans h.f2⟩
theorem Three.alloc {w : World} {g : Nat} {a b c : Value} (h : Three w g a b c) (o : Obj) : Three (w.alloc o) g a b c := h.later (below_alloc w o)
theorem Three.drew {w : World} {g : Nat} {a b c : Value} (h : Three w g a b c) : Three w.drew g a b c := ⟨h.lt, h.c0, h.c1, h.c2, h.f0, h.f1, h.f2⟩
theorem Three.set {w : World} {g : Nat} {a b c : Value} (h : Three w g a b c) (u v z : Value) : Three (((w.setCell ⟨g, 0, none⟩ u).setCell ⟨g, 1, none⟩ v).setCell ⟨g, 2, none⟩ z) g u v z := by
  obtain ⟨hl, h0, h1, h2, f0, f1, f2⟩ := h
  refine ⟨by simpa using hl, ?_, ?_, ?_, ?_, ?_, ?_⟩
  all_goals simp [h0, h1, h2, f0, f1, f2, go_sem]
theorem three_new (w : World) (a b c : Value) (t : TypeId) : Three (w.alloc (.cells #[a, b, c] t)) w.heap.size a b c := by
  have hk : w.heap.size < (w.alloc (.cells #[a, b, c] t)).heap.size := by rw [alloc_size]; omega
  refine ⟨hk, ?_, ?_, ?_, ?_, ?_, ?_⟩
  · rw [cells_of_alloc]; rfl
  · rw [cells_of_alloc]; rfl
  · rw [cells_of_alloc]; rfl
  all_goals simp
theorem three_later {w w1 : World} {a b c : Value} {t : TypeId} (hb : Below (w.alloc (.cells #[a, b, c] t)).heap.size (w.alloc (.cells #[a, b, c] t)) w1) : Three w1 w.heap.size a b c := (three_new w a b c t).later hb
theorem below_to {w w0 w1 : World} (h : Below w.heap.size w w0) (hb : Below w0.heap.size w0 w1) : Below w.heap.size w w1 := h.trans (hb.mono h.size)
end Go.Proofs.YtfcigknalnmhcaaDoor
