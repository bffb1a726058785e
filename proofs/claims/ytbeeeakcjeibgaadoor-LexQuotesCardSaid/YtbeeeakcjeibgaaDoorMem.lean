/- Laws on memory that the walks of this layer need: a copy out of a string into a row of the call's own; a string made of such a row. No program stands in this text. -/
import Derived.Lib.LazyBuf
import Derived.Laws.CopyOwn
import Derived.Laws.BytesString
import Derived.Laws.MakeOwn
import Derived.Laws.OwnMore
import Derived.Lib.UnsafeStr
import Derived.Lib.FrozenHead
namespace Go.Proofs.YtbeeeakcjeibgaaDoor
open Go.RowKit
variable {P : Program}

theorem strCells_bytes (s : ByteArray) : Lib.strCells s = Lib.byteCells s.data.toList := by
  unfold Lib.strCells Lib.byteCells; rfl
theorem strCells_len (s : ByteArray) : (Lib.strCells s).length = s.size := by rw [strCells_bytes, Lib.byteCells_length, ← Lib.size_eq]
theorem byteCells_one (l : List UInt8) : ∀ v ∈ Lib.byteCells l, v.oneCell' = true := by
  intro v hv; unfold Lib.byteCells at hv; obtain ⟨x, _, rfl⟩ := List.mem_map.1 hv; rfl

theorem run_copy_str (w : World) (dT sT ty elem : TypeId) (g o dLen dCap : Nat) (t : ByteArray) (cur : List Value) (ct : TypeId)
    (hu : P.underlying dT = some (.slice elem)) (hz : ∀ w, (Go.sizeOf elem).run P w = .ok 1 w) (hle : t.size ≤ dLen)
    (hg : w.heap[g]? = some (.cells cur.toArray ct (0, 0))) (hfit : o + t.size ≤ cur.length) :
    (Builtin.copy_ #[dT, sT] ty #[.slice (some ⟨g, o, none⟩) dLen dCap, .string t]).run P w = .ok (goInt t.size) (w.setRow g (splice cur o (Lib.strCells t)).toArray) := by
  have hmin : Nat.min t.size dLen = t.size := Nat.min_eq_left hle
  have hl : (Lib.strCells t).length = t.size := strCells_len t
  have hst := run_storeCells_at (P := P) g o ct (Lib.strCells t) 0 cur.toArray w hg (by rw [hl]; simpa using hfit) (by rw [strCells_bytes]; exact byteCells_one _)
  have e : (t.data.toList.map fun x => Value.int .u8 (x.toNat : Int)) = Lib.strCells t := rfl
  simp [Builtin.copy_, run_underlying hu, Builtin.lenOf, Builtin.firstCells, hz, hmin]
  rw [e, List.take_of_length_le (by rw [hl]; exact Nat.le_refl _), hst]
  simp [splice, hl]

/-- 'copy(dst[o:], s)' as a law for the walk: the row behind it is known whole. -/
theorem wpList_copy_str {w : World} {ops : Array Oper} {rest : List Oper} {o : Oper} {a : Act} {Q : Exit → Act → World → Prop} (hgd : o.guard = none) (d s : Operand) (dT sT : TypeId)
    (ho : o.op = .call { callee := .builtin .copy, args := #[d, s], argTypes := #[dT, sT] }) (elem : TypeId) (hu : P.underlying dT = some (.slice elem)) (hz : ∀ w, (Go.sizeOf elem).run P w = .ok 1 w)
    (g off dLen dCap : Nat) (hd : a.eval d = .slice (some ⟨g, off, none⟩) dLen dCap) (t : ByteArray) (hs : a.eval s = .string t) (hle : t.size ≤ dLen)
    (cur : List Value) (ct : TypeId) (hg : w.heap[g]? = some (.cells cur.toArray ct (0, 0))) (hfit : off + t.size ≤ cur.length)
    (h : ∀ w', w' = w.setRow g (splice cur off (Lib.strCells t)).toArray → wpList P ops Q rest (a.put o.dst (goInt t.size)) w') : wpList P ops Q (o :: rest) a w := by
  refine wpList_plain hgd fun K hK => ?_
  have hrun := run_copy_str (P := P) w dT sT o.type elem g off dLen dCap t cur ct hu hz hle hg hfit
  unfold Oper.wp
  simp [execOp, ho, resolve, invoke, builtin, hd, hs, hrun, Result.andThen]
  exact hK _ _ (h _ rfl)

theorem foldl_bytes : ∀ (l : List UInt8) (s : ByteArray), (l.map fun x => (x.toNat : Int)).foldl (fun r n => r.push (UInt8.ofNat n.toNat)) s = ⟨(s.data.toList ++ l).toArray⟩
  | [], s => by simp
  | x :: l, s => by
    simp only [List.map_cons, List.foldl_cons]
    rw [foldl_bytes l]
    simp [ByteArray.push]

/-- 'string(b)' of a row of bytes that is known. -/
theorem run_string_of (w : World) (src dst e : TypeId) (g cap : Nat) (l : List UInt8) (n : Nat) (hn : l.length = n)
    (hs : P.underlying src = some (.slice e)) (he : P.underlying e = some (.int .u8)) (hd : P.underlying dst = some .string)
    (hc : ∀ j v, (Lib.byteCells l)[j]? = some v → w.cell? ⟨g, j, none⟩ = some v) :
    (convert src dst (.slice (some ⟨g, 0, none⟩) n cap)).run P w = .ok (.string ⟨l.toArray⟩) w := by
  rw [run_convert_bytes_string w src dst e _ _ _ hs he hd]
  have h1 : (loadCells ⟨g, 0, none⟩ n).run P w = .ok ((l.map fun x => (x.toNat : Int)).map (Value.int .u8)).toArray w := by
    have := run_loadCells_list (P := P) (w := w) ⟨g, 0, none⟩ (Lib.byteCells l) (by
      intro j v hv
      have := hc j v hv
      have e : (⟨g, 0, none⟩ : Addr).add j = ⟨g, j, none⟩ := by unfold Addr.add; split <;> simp_all
      rw [e]; exact this)
    rw [Lib.byteCells_length, hn] at this
    rw [this]
    simp [Lib.byteCells, Function.comp]
  rw [run_bytesToString w _ _ _ _ h1, foldl_bytes]
  rfl
end Go.Proofs.YtbeeeakcjeibgaaDoor
