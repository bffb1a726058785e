/- Several texts in one: Count, Lib, Mem, Fold, VBase, Bytes, List, V3. -/
import Derived.Test.YtindkpfmflcibaaGreatDoorProg
import Derived.Test.YtindkpfmflcibaaGreatDoorShelf
import Derived.Test.YtindkpfmflcibaaGreatDoorGA
import Derived.Test.YtindkpfmflcibaaGreatDoorRows
import Derived.WalkKit
import Derived.WalkMore
import Derived.Lib.Walk
import Derived.Lib.RuneCount
import Derived.Laws.RangeString
import Derived.Laws.RangeAny
import Derived.LoopTactic
import Derived.Below
import Derived.Shelf.Unicode.DecodeSlow
import Derived.Shelf.Strings.BuilderRune
import Derived.Shelf.Strings.Builder2Cap
import Derived.Shelf.Strings.BuilderK
import Derived.BigCall
import Derived.Lib.OthersKept
import Derived.WalkSpells
import Derived.Lib.Hide
import Derived.Lib.LazyBuf
import Derived.Laws.CopyOwn
import Derived.Laws.BytesString
import Derived.Laws.MakeOwn
import Derived.Laws.OwnMore
import Derived.Lib.UnsafeStr
import Derived.Lib.FrozenHead
import Derived.Shelf.Strconv.ErrVarParseInt
import Derived.Shelf.Strconv.Clone
import Derived.Shelf.Strings.Prefix
import Derived.Shelf.Small.Strs
import Derived.Shelf.Small.Wraps
import Derived.WalkLawsBesides
import Derived.Lib.SmallJoins
import Derived.Laws.AppendOwnNone
import Derived.Laws.BytesArg
import Derived.Maps.AppendAt
import Derived.RegionTactic
import Derived.Lib.SlBytesConst
import Derived.ProofKit
import Derived.SizedLaws
import Derived.Carry
import Derived.OpenShut
import Derived.Laws.AppendOwn
import Derived.Deep.DeepFit
namespace Go.Proofs.YtindkpfmflcibaaGreatDoor
/- The contract of runes.Count: for every string shorter than 2^63 - 1 bytes it returns how many pieces the model's own decoding finds; memory gains the iterator's block alone. -/
section
open Go.RowKit

set_option maxHeartbeats 1000000 in
theorem count_iter (s : ByteArray) (w : World) (hs : s.size < 9223372036854775807) :
    Calls Tryz.prog 73 #[.string s] w fun e w' => e = .returned (.int .i64 (Lib.runeCount s)) ∧ ∃ pos, w' = w.iter s pos := by
  go_enter Tryz.func73, Tryz.ntmps73
  go_wp2
  go_loopw [3] (fun n w' => ∃ (pos b acc : Nat), w' = w.iter s pos ∧ n = .int .i64 acc ∧ acc + Lib.runeCountFrom s b pos = Lib.runeCount s ∧ s.size ≤ pos + b ∧ acc ≤ pos) (fun _ w' => s.size - w'.iterPos w.heap.size)
  case atStart => exact ⟨0, s.size, 0, rfl, rfl, by simp [Lib.runeCount], by omega, Nat.le_refl _⟩
  case round =>
    obtain ⟨pos, b, acc, rfl, rfl, hc, hb, ha⟩ := hrel
    by_cases hp : pos < s.size
    · have hnx : ∀ ty, (Instr.next (.pointer (some ⟨w.heap.size, 0, none⟩)) true ty).run Tryz.prog (w.iter s pos) = _ := fun ty => run_next_any w s pos ty hp
      have hwd := Lib.decode_width_pos s pos hp
      go_wp2
      go_roundw
      case rel =>
        cases b with
        | zero => omega
        | succ b =>
          refine ⟨pos + (Utf8.decode s pos).2, b, acc + 1, rfl, by go_num, ?_, by omega, by omega⟩
          rw [← hc]
          simp [Lib.runeCountFrom, hp]
          omega
      case measure =>
        simp
        omega
    · have hnx : ∀ ty, (Instr.next (.pointer (some ⟨w.heap.size, 0, none⟩)) true ty).run Tryz.prog (w.iter s pos) = _ := fun ty => run_next_end w s pos ty hp
      go_wp2
      go_ret
      rw [Lib.runeCountFrom_end s b pos hp, Nat.add_zero] at hc
      subst hc
      exact ⟨rfl, _, rfl⟩

theorem iter_below (w : World) (s : ByteArray) (pos : Nat) : Below w.heap.size w (w.iter s pos) := (Below.refl _ w).alloc (Nat.le_refl _) _
theorem count_any (s : ByteArray) (w : World) (hs : s.size < 9223372036854775807) :
    Calls Tryz.prog 73 #[.string s] w fun e w' => e = .returned (.int .i64 (Lib.runeCount s)) ∧ Below w.heap.size w w' :=
  (count_iter s w hs).mono fun _ _ ⟨he, _, hw⟩ => ⟨he, hw ▸ iter_below w s _⟩
end
/- The library's contracts at this translation's own numbers (utf8.DecodeRuneInString, strings.Builder), and runes.width: under the two tables of unicode/utf8 as their text lays them. -/
section
open Go.RowKit

/-- The two tables hold what their text lays. -/
def Tabs (w : World) : Prop := Lib.Utf8Tabs 0 1 w
theorem Tabs.later {w w' : World} (h : Tabs w) (hb : Below w.heap.size w w') : Tabs w' := Utf8Tabs_below h hb

theorem tailList (s : ByteArray) (pos : Nat) : (s.extract pos s.size).data.toList = s.data.toList.drop pos := by
  rw [Lib.extract_data, List.take_of_length_le (by rw [List.length_drop, ← Lib.size_eq]; omega)]
end
/- Laws on memory that the walks of this layer need: a copy out of a string into a row of the call's own; a string made of such a row. No program stands in this text. -/
section
open Go.RowKit
variable {P : Program}

theorem strCells_bytes (s : ByteArray) : Lib.strCells s = Lib.byteCells s.data.toList := by
  unfold Lib.strCells Lib.byteCells; rfl
theorem strCells_len (s : ByteArray) : (Lib.strCells s).length = s.size := by rw [strCells_bytes, Lib.byteCells_length, ← Lib.size_eq]
theorem byteCells_one (l : List UInt8) : ∀ v ∈ Lib.byteCells l, v.oneCell' = true := by
  intro v hv; unfold Lib.byteCells at hv; obtain ⟨x, _, rfl⟩ := List.mem_map.1 hv; rfl

theorem run_copy_str (w : World) (dT sT ty elem : TypeId) (g o dLen dCap : Nat) (t : ByteArray) (cur : List Value) (ct : TypeId)
    (hu : P.underlying dT = some (.slice elem)) (hz : ∀ w, (Go.sizeOf elem).run P w = .ok 1 w) (hle : t.size ≤ dLen)
    (hg : w.heap[g]? = some (.cells cur.toArray ct (0, 0))) (hfit : o + t.size ≤ cur.length) :
    (Builtin.copy_ #[dT, sT] ty #[.slice (some ⟨g, o, none⟩) dLen dCap, .string t]).run P w = .ok (goInt t.size) (w.setRow g (splice cur o (Lib.strCells t)).toArray) := by
  have hmin : Nat.min t.size dLen = t.size := Nat.min_eq_left hle
  have hl : (Lib.strCells t).length = t.size := strCells_len t
  have hst := run_storeCells_at (P := P) g o ct (Lib.strCells t) 0 cur.toArray w hg (by rw [hl]; simpa using hfit) (by rw [strCells_bytes]; exact byteCells_one _)
  have e : (t.data.toList.map fun x => Value.int .u8 (x.toNat : Int)) = Lib.strCells t := rfl
  simp [Builtin.copy_, run_underlying hu, Builtin.lenOf, Builtin.firstCells, hz, hmin]
  rw [e, List.take_of_length_le (by rw [hl]; exact Nat.le_refl _), hst]
  simp [splice, hl]

/-- 'copy(dst[o:], s)' as a law for the walk: the row behind it is known whole. -/
theorem wpList_copy_str {w : World} {ops : Array Oper} {rest : List Oper} {o : Oper} {a : Act} {Q : Exit → Act → World → Prop} (hgd : o.guard = none) (d s : Operand) (dT sT : TypeId)
    (ho : o.op = .call { callee := .builtin .copy, args := #[d, s], argTypes := #[dT, sT] }) (elem : TypeId) (hu : P.underlying dT = some (.slice elem)) (hz : ∀ w, (Go.sizeOf elem).run P w = .ok 1 w)
    (g off dLen dCap : Nat) (hd : a.eval d = .slice (some ⟨g, off, none⟩) dLen dCap) (t : ByteArray) (hs : a.eval s = .string t) (hle : t.size ≤ dLen)
    (cur : List Value) (ct : TypeId) (hg : w.heap[g]? = some (.cells cur.toArray ct (0, 0))) (hfit : off + t.size ≤ cur.length)
    (h : ∀ w', w' = w.setRow g (splice cur off (Lib.strCells t)).toArray → wpList P ops Q rest (a.put o.dst (goInt t.size)) w') : wpList P ops Q (o :: rest) a w := by
  refine wpList_plain hgd fun K hK => ?_
  have hrun := run_copy_str (P := P) w dT sT o.type elem g off dLen dCap t cur ct hu hz hle hg hfit
  unfold Oper.wp
  simp [execOp, ho, resolve, invoke, builtin, hd, hs, hrun, Result.andThen]
  exact hK _ _ (h _ rfl)

theorem foldl_bytes : ∀ (l : List UInt8) (s : ByteArray), (l.map fun x => (x.toNat : Int)).foldl (fun r n => r.push (UInt8.ofNat n.toNat)) s = ⟨(s.data.toList ++ l).toArray⟩
  | [], s => by simp
  | x :: l, s => by
    simp only [List.map_cons, List.foldl_cons]
    rw [foldl_bytes l]
    simp [ByteArray.push]

/-- 'string(b)' of a row of bytes that is known. -/
theorem run_string_of (w : World) (src dst e : TypeId) (g cap : Nat) (l : List UInt8) (n : Nat) (hn : l.length = n)
    (hs : P.underlying src = some (.slice e)) (he : P.underlying e = some (.int .u8)) (hd : P.underlying dst = some .string)
    (hc : ∀ j v, (Lib.byteCells l)[j]? = some v → w.cell? ⟨g, j, none⟩ = some v) :
    (convert src dst (.slice (some ⟨g, 0, none⟩) n cap)).run P w = .ok (.string ⟨l.toArray⟩) w := by
  rw [run_convert_bytes_string w src dst e _ _ _ hs he hd]
  have h1 : (loadCells ⟨g, 0, none⟩ n).run P w = .ok ((l.map fun x => (x.toNat : Int)).map (Value.int .u8)).toArray w := by
    have := run_loadCells_list (P := P) (w := w) ⟨g, 0, none⟩ (Lib.byteCells l) (by
      intro j v hv
      have := hc j v hv
      have e : (⟨g, 0, none⟩ : Addr).add j = ⟨g, j, none⟩ := by unfold Addr.add; split <;> simp_all
      rw [e]; exact this)
    rw [Lib.byteCells_length, hn] at this
    rw [this]
    simp [Lib.byteCells, Function.comp]
  rw [run_bytesToString w _ _ _ _ h1, foldl_bytes]
  rfl
end
/- Small laws: a text's pieces at a place, new blocks, a builder behind a call that turns nothing of what was there. -/
section
open Go.RowKit

theorem drop_ne (s : ByteArray) (pos : Nat) (h : pos < s.size) : s.data.toList.drop pos ≠ [] := by
  intro e; have := congrArg List.length e; rw [List.length_drop, ← Lib.size_eq] at this; simp at this; omega
theorem drop_nil (s : ByteArray) (pos : Nat) (h : ¬ pos < s.size) : s.data.toList.drop pos = [] := List.drop_eq_nil_of_le (by rw [← Lib.size_eq]; omega)
theorem width_in (s : ByteArray) (pos : Nat) (h : pos < s.size) : 1 ≤ (Utf8.decode s pos).2 ∧ pos + (Utf8.decode s pos).2 ≤ s.size := by
  have h1 := Lib.width_pos s pos
  have h2 := Lib.decodeL_le _ (drop_ne s pos h)
  rw [Lib.decodeL_drop, List.length_drop, ← Lib.size_eq] at h2
  omega
theorem width_four (s : ByteArray) (pos : Nat) : (Utf8.decode s pos).2 ≤ 4 := by
  rw [Lib.decode_at]; unfold Lib.decodeN; repeat' split
  all_goals simp
theorem alloc_at (w : World) (o : Obj) : (w.alloc o).heap[w.heap.size]? = some o := by show (w.heap.push o)[w.heap.size]? = _; simp
theorem alloc_size (w : World) (o : Obj) : (w.alloc o).heap.size = w.heap.size + 1 := by show (w.heap.push o).size = _; simp

/-- A builder stays one behind a call that turns nothing of what was there. -/
theorem builderAt_later {T e : TypeId} {B b : Nat} {p : Value} {bs : List Value} {w w' : World} (h : Lib.BuilderAtF T e B b p bs w) (hb : Below w.heap.size w w') : Lib.BuilderAtF T e B b p bs w' := by
  obtain ⟨hB, v, hbk, hown, hne⟩ := h
  refine ⟨hB, v, (hb.block b (Array.getElem?_eq_some_iff.1 hbk).1).trans hbk, ⟨hown.1, ?_⟩, hne⟩
  rcases hown.2 with hn | ⟨g, cap, cur, fz, hv, hbg, hg, rest⟩
  · exact .inl hn
  · exact .inr ⟨g, cap, cur, fz, hv, hbg, (hb.block g (Array.getElem?_eq_some_iff.1 hg).1).trans hg, rest⟩
theorem builder_later {T e : TypeId} {B b : Nat} {bs : List Value} {w w' : World} (h : Lib.IsBuilderF T e B b bs w) (hb : Below w.heap.size w w') : Lib.IsBuilderF T e B b bs w' :=
  h.elim (fun x => .inl (builderAt_later x hb)) (fun x => .inr (builderAt_later x hb))

theorem ret_int {k : IntKind} {a b : Int} (h : a = b) : Ending.returned (.int k a) = .returned (.int k b) := by rw [h]
theorem ret_bool {a b : Bool} (h : a = b) : Ending.returned (.bool a) = .returned (.bool b) := by rw [h]
theorem ret_str {a b : ByteArray} (h : a = b) : Ending.returned (.string a) = .returned (.string b) := by rw [h]
end
/- What the contracts of this layer share: strings.HasPrefix, strings.IndexByte, strings.Clone, strconv.ParseInt at this translation; the tables and the two errors that are read; small laws on blocks. -/
section
open Go.RowKit

theorem size_list (s : ByteArray) : s.data.toList.length = s.size := (Lib.size_eq s).symm
theorem str_nil (s : ByteArray) : s.data.toList = [] ↔ s.size = 0 := by
  rw [← size_list]; exact (List.length_eq_zero_iff).symm
theorem emp (s : ByteArray) : s.toList.isEmpty = decide (s.data.toList = []) := by
  rw [← decide_eq_emptyBytes]
  refine decide_eq_decide.2 ⟨fun h => by rw [h]; rfl, fun h => ?_⟩
  obtain ⟨⟨l⟩⟩ := s
  simp at h; subst h; rfl
theorem cells_of_alloc (w : World) (cs : Array Value) (t : TypeId) (i : Nat) : (w.alloc (.cells cs t)).cell? ⟨w.heap.size, i, none⟩ = cs[i]? := by
  rw [Lib.cell_of_heap (alloc_at w _)]
theorem below_alloc (w : World) (o : Obj) : Below w.heap.size w (w.alloc o) := (Below.refl _ _).alloc (Nat.le_refl _) _
/-- A block of three cells of the call's own. -/
structure Three (w : World) (g : Nat) (a b c : Value) : Prop where
  lt : g < w.heap.size
  c0 : w.cell? ⟨g, 0, none⟩ = some a
  c1 : w.cell? ⟨g, 1, none⟩ = some b
  c2 : w.cell? ⟨g, 2, none⟩ = some c
  f0 : w.frozen? ⟨g, 0, none⟩ = false
  f1 : w.frozen? ⟨g, 1, none⟩ = false
  f2 : w.frozen? ⟨g, 2, none⟩ = false
theorem Three.later {w w' : World} {g : Nat} {a b c : Value} (h : Three w g a b c) (hb : Below w.heap.size w w') : Three w' g a b c :=
  ⟨Nat.lt_of_lt_of_le h.lt hb.size, (hb.cell (p := ⟨g, 0, none⟩) h.lt).trans h.c0, (hb.cell (p := ⟨g, 1, none⟩) h.lt).trans h.c1, (hb.cell (p := ⟨g, 2, none⟩) h.lt).trans h.c2,
    (hb.frozen (p := ⟨g, 0, none⟩) h.lt).trans h.f0, (hb.frozen (p := ⟨g, 1, none⟩) h.lt).trans h.f1, (hb.frozen (p := ⟨g, 2, none⟩) h.lt).trans h.f2⟩
theorem Three.alloc {w : World} {g : Nat} {a b c : Value} (h : Three w g a b c) (o : Obj) : Three (w.alloc o) g a b c := h.later (below_alloc w o)
theorem Three.drew {w : World} {g : Nat} {a b c : Value} (h : Three w g a b c) : Three w.drew g a b c := ⟨h.lt, h.c0, h.c1, h.c2, h.f0, h.f1, h.f2⟩
theorem Three.set {w : World} {g : Nat} {a b c : Value} (h : Three w g a b c) (u v z : Value) : Three (((w.setCell ⟨g, 0, none⟩ u).setCell ⟨g, 1, none⟩ v).setCell ⟨g, 2, none⟩ z) g u v z := by
  obtain ⟨hl, h0, h1, h2, f0, f1, f2⟩ := h
  refine ⟨by simpa using hl, ?_, ?_, ?_, ?_, ?_, ?_⟩
  all_goals simp [h0, h1, h2, f0, f1, f2, go_sem]
theorem three_new (w : World) (a b c : Value) (t : TypeId) : Three (w.alloc (.cells #[a, b, c] t)) w.heap.size a b c := by
  have hk : w.heap.size < (w.alloc (.cells #[a, b, c] t)).heap.size := by rw [alloc_size]; omega
  refine ⟨hk, ?_, ?_, ?_, ?_, ?_, ?_⟩
  · rw [cells_of_alloc]; rfl
  · rw [cells_of_alloc]; rfl
  · rw [cells_of_alloc]; rfl
  all_goals simp
theorem three_later {w w1 : World} {a b c : Value} {t : TypeId} (hb : Below (w.alloc (.cells #[a, b, c] t)).heap.size (w.alloc (.cells #[a, b, c] t)) w1) : Three w1 w.heap.size a b c := (three_new w a b c t).later hb
theorem below_to {w w0 w1 : World} (h : Below w.heap.size w w0) (hb : Below w0.heap.size w0 w1) : Below w.heap.size w w1 := h.trans (hb.mono h.size)
theorem clone_any (s : ByteArray) (w : World) (h : s.size ≤ 281474976710656) :
    Calls Tryz.prog 56 #[.string s] w fun e w' => e = .returned (.string s) ∧ Below w.heap.size w w' := by
  have c := fun w => Any.stringslite_Clone Tryz.more316 s w h
  go_enter Tryz.func56, Tryz.ntmps56
  go_wp2_with fail
  refine (c _).mono ?_
  rintro e w1 ⟨rfl, hb⟩
  go_wp2
  go_ret
  exact ⟨rfl, hb⟩
section
open Go.Lib Go.Shelf
theorem parse_lo {l : List UInt8} {v : Int} (h : parseIntB 64 l = .ok v) : -9223372036854775808 ≤ v ∧ v ≤ 9223372036854775807 := by
  cases l with
  | nil => simp [parseIntB] at h
  | cons c r =>
    simp only [parseIntB] at h
    split at h
    · cases h
    · cases h
    · split at h
      · cases h
      · split at h
        · cases h
        · rename_i h1 h2
          injection h with h
          by_cases hn : c.toNat = 45
          · rw [if_pos hn] at h; omega
          · rw [if_neg hn] at h; omega
end
end
/- What laws on bytes share: bytes that lie somewhere; bytes in new memory; a place among n; a text made of bytes; a slice of bytes that came in, opened. -/
section
open Go.ChangeShapes Go.WideShapes Go.ChangeAt Go.RowKit

theorem own : ownKnob Tryz.prog.godebug = none := by kernel_rfl
theorem laidOut : laidOutB Tryz.prog = true := by kernel_rfl
theorem flip_w {f : FuncId} {xs : Array Value} {v : Value} {w : World} (h : Calls Tryz.prog f xs w fun e w' => e = .returned v ∧ w = w') : Calls Tryz.prog f xs w fun e w' => e = .returned v ∧ w' = w :=
  h.mono fun _ _ ⟨he, hw⟩ => ⟨he, hw.symm⟩

/-- The bytes L lie where the slice begins. -/
def Bs (w : World) (A : Option Addr) (L : List UInt8) : Prop := 0 < L.length → ∃ b off, A = some ⟨b, off, none⟩ ∧ ∀ j, j < L.length → w.cell? ⟨b, off + j, none⟩ = some (.int .u8 ((L.getD j 0).toNat : Int))
theorem Bs.nil (w : World) (A : Option Addr) : Bs w A [] := fun h => absurd h (by decide)
theorem Bs.lt {w : World} {b off : Nat} {L : List UInt8} (h0 : 0 < L.length) (h : ∀ j, j < L.length → w.cell? ⟨b, off + j, none⟩ = some (.int .u8 ((L.getD j 0).toNat : Int))) : b < w.heap.size := by
  have := h 0 h0
  rcases Nat.lt_or_ge b w.heap.size with hlt | hge
  · exact hlt
  · simp [World.cell?, Array.getElem?_eq_none hge] at this
theorem Bs.below {w w' : World} {A : Option Addr} {L : List UInt8} (h : Bs w A L) (hb : Below w.heap.size w w') : Bs w' A L := fun h0 => by
  obtain ⟨b, off, e, hc⟩ := h h0
  have hl := Bs.lt h0 hc
  exact ⟨b, off, e, fun j hj => (hb.cell (p := ⟨b, off + j, none⟩) hl).trans (hc j hj)⟩
theorem byte_hi (c : UInt8) : (c.toNat : Int) ≤ 255 := by have := c.toNat_lt; omega

theorem bs_own {w : World} {B : Nat} {e : TypeId} {v : Value} {L : List UInt8} (h : w.ownsRow B e 1 v L.length (Lib.byteCells L)) :
    ∃ A cap, v = .slice A L.length cap ∧ Bs w A L := by
  have h' := h
  rcases h.2 with ⟨rfl, hn⟩ | ⟨g, cap, cur, rfl, hbg, hg, hnc, hcm, rest⟩
  · exact ⟨none, 0, by rw [hn], fun hp => absurd hp (by omega)⟩
  · refine ⟨_, cap, rfl, fun _ => ⟨g, 0, rfl, fun j hj => ?_⟩⟩
    rw [Nat.zero_add, h'.cellAt j (by omega)]
    unfold Lib.byteCells
    rw [List.getElem?_map, List.getElem?_eq_getElem hj, List.getD_eq_getElem?_getD, List.getElem?_eq_getElem hj]
    rfl
theorem bytes_one (l : List UInt8) : ∀ v ∈ Lib.byteCells l, v.oneCell' = true := by
  intro v hv; unfold Lib.byteCells at hv; obtain ⟨x, _, rfl⟩ := List.mem_map.1 hv; rfl
theorem bs_cells {w : World} {ad : Addr} {L : List UInt8} (h : Bs w (some ad) L) : ∀ j u, (Lib.byteCells L)[j]? = some u → w.cell? (ad.add j) = some u := by
  intro j u hu
  have hj : j < L.length := by
    have := (List.getElem?_eq_some_iff.1 hu).1
    rwa [Lib.byteCells_length] at this
  obtain ⟨b, off, e, hc⟩ := h (by omega)
  injection e with e
  subst e
  have e2 : (⟨b, off, none⟩ : Addr).add j = ⟨b, off + j, none⟩ := by unfold Addr.add; split <;> simp_all
  rw [e2, hc j hj, ← hu]
  unfold Lib.byteCells
  rw [List.getElem?_map, List.getElem?_eq_getElem hj, List.getD_eq_getElem?_getD, List.getElem?_eq_getElem hj]
  rfl

def OwnBytes (w : World) (L : List UInt8) (e : Ending) (w' : World) : Prop := ∃ A cap, e = .returned (.slice A L.length cap) ∧ Bs w' A L ∧ (A = none → cap = 0) ∧ w'.ownsRow w.heap.size 5 1 (.slice A L.length cap) L.length (Lib.byteCells L) ∧ Below w.heap.size w w'

theorem own_bytes {w w1 : World} {v : Value} {L : List UInt8} (h : w1.ownsRow w.heap.size 5 1 v L.length (Lib.byteCells L)) (hb : Below w.heap.size w w1) : OwnBytes w L (.returned v) w1 := by
  obtain ⟨A1, cap1, rfl, hB1⟩ := bs_own h
  refine ⟨A1, cap1, rfl, hB1, ?_, h, hb⟩
  rintro rfl
  rcases h.2 with ⟨h, _⟩ | ⟨g, c', cur, h, _⟩
  · injection h
  · injection h with h; cases h

def placeZ (v n : Int) : Int := v % n
theorem placeZ_lo (v n : Int) (hn : 0 < n) : 0 ≤ placeZ v n := Int.emod_nonneg _ (by omega)
theorem placeZ_hi (v n : Int) (hn : 0 < n) : placeZ v n < n := Int.emod_lt_of_pos _ hn
theorem tmod_neg (v n : Int) (hv : v < 0) (hn : 1 ≤ n) : -n < v.tmod n ∧ v.tmod n ≤ 0 := by
  have h1 : (-v).tmod n = -(v.tmod n) := Int.neg_tmod _ _
  have h2 : (-v).tmod n = (-v) % n := Int.tmod_eq_emod_of_nonneg (by omega)
  have h3 := Int.emod_nonneg (-v) (show n ≠ 0 by omega)
  have h4 := Int.emod_lt_of_pos (-v) (show 0 < n by omega)
  omega
theorem placeZ_tmod (v n : Int) : placeZ v n = placeZ (v.tmod n) n := by
  unfold placeZ
  have h := Int.mul_tdiv_add_tmod v n
  have h2 : (n * v.tdiv n + v.tmod n) % n = v.tmod n % n := by rw [Int.add_comm]; exact Int.add_mul_emod_self_left ..
  rw [h] at h2
  exact h2
theorem placeZ_low {t n : Int} (h0 : 0 ≤ t + n) (h1 : t < 0) : t + n = placeZ t n := by
  unfold placeZ
  rw [← Int.add_emod_right]
  exact (Int.emod_eq_of_lt h0 (by omega)).symm
theorem placeZ_high {t n : Int} (h0 : 0 ≤ t) (h1 : t < n) : t = placeZ t n := (Int.emod_eq_of_lt h0 h1).symm

/-- 'string(b)' of bytes that lie somewhere. -/
theorem run_str_of {P : Program} {w : World} {A : Option Addr} {L : List UInt8} (src dst e : TypeId) (cap : Nat) (hs : P.underlying src = some (.slice e)) (he : P.underlying e = some (.int .u8)) (hd : P.underlying dst = some .string) (hB : Bs w A L) :
    (convert src dst (.slice A L.length cap)).run P w = .ok (.string ⟨L.toArray⟩) w := by
  cases A with
  | none =>
    have h0 : L = [] := by
      cases L with
      | nil => rfl
      | cons c L => obtain ⟨b, off, e, _⟩ := hB (by simp); cases e
    subst h0
    exact run_convert_bytes_nil w src e hs he _ _ dst hd
  | some ad =>
    rw [run_convert_bytes_string w src dst e _ _ _ hs he hd]
    have h1 : (loadCells ad L.length).run P w = .ok ((L.map fun x => (x.toNat : Int)).map (Value.int .u8)).toArray w := by
      have := run_loadCells_list (P := P) (w := w) ad (Lib.byteCells L) (fun j v hv => bs_cells hB j v hv)
      rw [Lib.byteCells_length] at this
      rw [this]
      simp [Lib.byteCells, Function.comp]
    rw [run_bytesToString w _ _ _ _ h1, foldl_bytes]
    rfl
theorem size_reach {s : ByteArray} (h : s.data.toList.length ≤ reachBytes) : s.size ≤ 140737488351232 := by
  rw [show s.data.toList.length = s.size by simp] at h
  exact h
theorem bs_take {w : World} {A : Option Addr} {L : List UInt8} (h : Bs w A L) (k : Nat) : Bs w A (L.take k) := fun h0 => by
  rw [List.length_take] at h0
  obtain ⟨b, off, e, hc⟩ := h (by omega)
  refine ⟨b, off, e, fun j hj => ?_⟩
  rw [List.length_take] at hj
  rw [hc j (by omega), List.getD_eq_getElem?_getD, List.getD_eq_getElem?_getD, List.getElem?_take, if_pos (by omega)]
theorem bs_drop {w : World} {A : Option Addr} {L : List UInt8} (h : Bs w A L) (k cap : Nat) (hk : L.length ≤ cap) : Bs w (if cap = k then A else A.map (·.add k)) (L.drop k) := fun h0 => by
  rw [List.length_drop] at h0
  obtain ⟨b, off, rfl, hc⟩ := h (by omega)
  rw [if_neg (by omega)]
  refine ⟨b, off + k, by show some ((⟨b, off, none⟩ : Addr).add k) = _; rw [add_plain], fun j hj => ?_⟩
  rw [List.length_drop] at hj
  rw [Nat.add_assoc, hc (k + j) (by omega), List.getD_eq_getElem?_getD, List.getD_eq_getElem?_getD, List.getElem?_drop]
theorem Bs.drew {w : World} {A : Option Addr} {L : List UInt8} (h : Bs w A L) : Bs w.drew A L := h

theorem byteOf (n : Int) (h0 : 0 ≤ n) (h1 : n ≤ 255) : ((UInt8.ofNat n.toNat).toNat : Int) = n := by simp; omega
theorem bs_of_ints {w : World} {a : Addr} {len : Nat} {zs : List Int} (hl : len ≤ zs.length) (hc : ∀ i, i < zs.length → w.cell? (a.add i) = some (.int .u8 (zs.getD i 0))) (hw : ∀ n ∈ zs, (Lit.int .u8 n).wf = true) :
    ∃ L : List UInt8, L.length = len ∧ Bs w (some a) L := by
  refine ⟨(zs.take len).map fun n => UInt8.ofNat n.toNat, by rw [List.length_map, List.length_take]; omega, fun h0 => ?_⟩
  rw [List.length_map, List.length_take] at h0
  obtain ⟨b, off, rfl, hc2⟩ := ints_at hc (by omega)
  refine ⟨b, off, rfl, fun j hj => ?_⟩
  rw [List.length_map, List.length_take] at hj
  have hj2 : j < zs.length := by omega
  rw [hc2 j hj2]
  have hb := bounds_u8 (hw zs[j] (List.getElem_mem hj2))
  have e : ((zs.take len).map fun n => UInt8.ofNat n.toNat).getD j 0 = UInt8.ofNat (zs[j]).toNat := by
    rw [List.getD_eq_getElem?_getD, List.getElem?_map, List.getElem?_take, if_pos (by omega), List.getElem?_eq_getElem hj2]; rfl
  rw [e, byteOf _ hb.1 hb.2, List.getD_eq_getElem?_getD, List.getElem?_eq_getElem hj2]
  rfl

/-- A slice of bytes that came in. -/
theorem open_bytes {H : Type} {enc : TypeId × Value → H} {P : Program} {w : World} {base : Nat} {t e : TypeId} {v : Value} {d : DataW H} {p : List MemPlace} (ht : P.underlying t = some (.slice e)) (he : P.underlying e = some (.int .u8)) (hc : P.cellsOf e = 1)
    (hval : Value.okWide P w .any base t v) (h : DataW.Trod enc P w 0 (fun _ => true) true t v d p) (hs : ∀ elems spare, d = .slice elems spare → (elems.length + spare.length) * 1 ≤ reachBytes) :
    ∃ (A : Option Addr) (L : List UInt8) (cap : Nat), v = .slice A L.length cap ∧ L.length ≤ cap ∧ cap ≤ 140737488351232 ∧ Bs w A L ∧ (A = none → cap = 0) := by
  obtain ⟨a0, len0, cap0, rfl⟩ := okWide_slice ht hval
  obtain ⟨fuel, hf⟩ := h
  rcases open_ints ht he hc hf with ⟨hcs, hx⟩ | ⟨a, len, cap, zs, hcs, _, hl, hm, hz, hx, hcell, hwz⟩
  · simp [Value.cells] at hcs
    obtain ⟨rfl, rfl, rfl⟩ := hcs
    exact ⟨none, [], 0, rfl, Nat.le_refl _, by omega, Bs.nil _ _, fun _ => rfl⟩
  · simp [Value.cells] at hcs
    obtain ⟨rfl, rfl, rfl⟩ := hcs
    simp only [Prod.mk.injEq] at hx
    obtain ⟨rfl, rfl⟩ := hx
    simp only [if_true] at hz
    obtain ⟨L, rfl, hB⟩ := bs_of_ints (len := len0) (by omega) hcell hwz
    have := hs _ _ rfl
    simp only [lits, List.length_map, List.length_take, List.length_drop, reachBytes] at this
    exact ⟨some a, L, cap0, rfl, hl, by omega, hB, fun h => by cases h⟩
end
/- What a row of the call's own stays behind a call; where its elements lie. -/
section
open Go.RowKit

theorem own_iterAt {w : World} {B : Nat} {e : TypeId} {z : Nat} {v : Value} {n : Nat} {xs : List Value} (h : w.ownsRow B e z v n xs) {k : Nat} {s : ByteArray} {pos : Nat} (hk : w.heap[k]? = some (.stringIter s pos)) (pos' : Nat) : (w.iterAt k s pos').ownsRow B e z v n xs := by
  refine ⟨h.1, ?_⟩
  rcases h.2 with hn | ⟨g, cap, cur, hv, hbg, hg, rest⟩
  · exact .inl hn
  · have hkg : g ≠ k := by intro e1; rw [e1, hk] at hg; cases hg
    exact .inr ⟨g, cap, cur, hv, hbg, (Lib.iterAt_other w k g s pos' hkg).trans hg, rest⟩
theorem own_later {w w' : World} {B : Nat} {e : TypeId} {z : Nat} {v : Value} {n : Nat} {xs : List Value} (h : w.ownsRow B e z v n xs) (hb : Below w.heap.size w w') : w'.ownsRow B e z v n xs := by
  refine ⟨h.1, ?_⟩
  rcases h.2 with hn | ⟨g, cap, cur, hv, hbg, hg, rest⟩
  · exact .inl hn
  · exact .inr ⟨g, cap, cur, hv, hbg, (hb.block g (Array.getElem?_eq_some_iff.1 hg).1).trans hg, rest⟩
/-- An iterator's block is no block of a row's. -/
theorem iter_ne {w : World} {B : Nat} {e : TypeId} {z : Nat} {v : Value} {n : Nat} {xs : List Value} (h : w.ownsRow B e z v n xs) {k : Nat} {s : ByteArray} {pos : Nat} (hk : w.heap[k]? = some (.stringIter s pos)) : some k ≠ v.ownBlock := by
  rcases h.2 with ⟨rfl, _⟩ | ⟨g, cap, cur, rfl, hbg, hg, rest⟩
  · simp [Value.ownBlock]
  · simp only [Value.ownBlock, ne_eq, Option.some.injEq]
    intro e1; rw [← e1, hk] at hg; cases hg

/-- What a slice of the call's own is, and where its elements lie. -/
theorem own_slice {w : World} {B : Nat} {e : TypeId} {v : Value} {n : Nat} {xs : List Value} (h : w.ownsRow B e 1 v n xs) :
    ∃ ao cap, v = .slice ao n cap ∧ n ≤ cap ∧ cap ≤ maxLen ∧ (0 < n → ∃ g, ao = some ⟨g, 0, none⟩ ∧ g < w.heap.size ∧ ∀ j u, xs[j]? = some u → w.cell? ⟨g, j, none⟩ = some u) := by
  have h' := h
  rcases h.2 with ⟨rfl, hn⟩ | ⟨g, cap, cur, rfl, hbg, hg, hnc, hcm, rest⟩
  · exact ⟨none, 0, by rw [hn], by omega, by unfold maxLen; omega, fun hp => absurd hp (by omega)⟩
  · refine ⟨_, cap, rfl, hnc, hcm, fun _ => ⟨g, rfl, (Array.getElem?_eq_some_iff.1 hg).1, fun j u hu => ?_⟩⟩
    have := h'.cells (g := g) rfl j u hu
    have e : (⟨g, 0, none⟩ : Addr).add j = ⟨g, j, none⟩ := by unfold Addr.add; split <;> simp_all
    rwa [e] at this
end
/- A value as it stands in memory, or comes in. -/
section
abbrev V3 (K n : Int) (s : ByteArray) : Value := .agg #[.int .i64 K, .int .i64 n, .string s]
end
end Go.Proofs.YtindkpfmflcibaaGreatDoor
