/- What the bound of a statement's second form gives: of bytes, of texts, that came in. -/
import Derived.Test.YtpkbjiakjofcnaaArgs
import Derived.Deep.CondSized
import Derived.JoinedCond
namespace Go.Proofs.Ytpkbjiakjofcnaa
open Go.ChangeShapes Go.WideShapes Go.ChangeAt Go.RowKit

theorem bulk_one {H : Type} (d : DataW H) : 1 ≤ Rows.uptoBulk d := by
  cases d with
  | lit l => cases l <;> simp [Rows.uptoBulk]
  | nil => simp [Rows.uptoBulk]
  | ptr d => simp [Rows.uptoBulk]
  | slice elems spare => simp [Rows.uptoBulk]
  | agg parts => simp [Rows.uptoBulk]
  | iface t d => simp [Rows.uptoBulk]
  | map entries => simp [Rows.uptoBulk]
  | held h => simp [Rows.uptoBulk]
theorem bulk_length {H : Type} (l : List (DataW H)) : l.length ≤ Rows.uptoBulkAll l := by
  induction l with
  | nil => simp [Rows.uptoBulkAll]
  | cons x r ih => have := bulk_one x; simp only [Rows.uptoBulkAll, List.length_cons]; omega
theorem bulk_slice {H : Type} (elems spare : List (DataW H)) : elems.length + spare.length + 1 ≤ Rows.uptoBulk (.slice elems spare) := by
  have h1 := bulk_length elems
  have h2 := bulk_length spare
  simp only [Rows.uptoBulk]
  omega
/-- So many letters in all. -/
def letters : List ByteArray → Nat
  | [] => 0
  | s :: r => s.size + letters r
theorem bulk_texts {H : Type} : ∀ S : List ByteArray, Rows.uptoBulkAll (strs (H := H) S) = letters S + S.length
  | [] => by simp [strs, Rows.uptoBulkAll, letters]
  | s :: S => by
    have ih := bulk_texts (H := H) S
    unfold strs at ih ⊢
    simp only [List.map_cons, Rows.uptoBulkAll, Rows.uptoBulk, letters, List.length_cons]
    rw [ih]
    have : s.data.toList.length = s.size := by simp
    omega
/-- A slice of bytes that came in, of at most N places. -/
theorem open_bytes_le {H : Type} {enc : TypeId × Value → H} {P : Program} {w : World} {base : Nat} {t e : TypeId} {v : Value} {d : DataW H} {p : List MemPlace} (N : Nat) (ht : P.underlying t = some (.slice e)) (he : P.underlying e = some (.int .u8)) (hc : P.cellsOf e = 1)
    (hval : Value.okWide P w .any base t v) (h : DataW.Trod enc P w 0 (fun _ => true) true t v d p) (hs : ∀ elems spare, d = .slice elems spare → elems.length + spare.length ≤ N) :
    ∃ (A : Option Addr) (L : List UInt8) (cap : Nat), v = .slice A L.length cap ∧ L.length ≤ cap ∧ cap ≤ N ∧ Bs w A L ∧ (A = none → cap = 0) := by
  obtain ⟨a0, len0, cap0, rfl⟩ := okWide_slice ht hval
  obtain ⟨fuel, hf⟩ := h
  rcases open_ints ht he hc hf with ⟨hcs, hx⟩ | ⟨a, len, cap, zs, hcs, _, hl, hm, hz, hx, hcell, hwz⟩
  · simp [Value.cells] at hcs
    obtain ⟨rfl, rfl, rfl⟩ := hcs
    exact ⟨none, [], 0, rfl, Nat.le_refl _, by omega, Bs.nil _ _, fun _ => rfl⟩
  · simp [Value.cells] at hcs
    obtain ⟨rfl, rfl, rfl⟩ := hcs
    simp only [Prod.mk.injEq] at hx
    obtain ⟨rfl, rfl⟩ := hx
    simp only [if_true] at hz
    obtain ⟨L, rfl, hB⟩ := bs_of_ints (len := len0) (by omega) hcell hwz
    have := hs _ _ rfl
    simp only [lits, List.length_map, List.length_take, List.length_drop] at this
    exact ⟨some a, L, cap0, rfl, hl, by omega, hB, fun h => by cases h⟩
end Go.Proofs.Ytpkbjiakjofcnaa
