/- A text made of bytes that lie somewhere: the run of the conversion. No program stands in this text. -/
import Derived.Test.YtmmclglbjjfcgaaSumBase
namespace Go.Proofs.Ytmmclglbjjfcgaa
open Go.RowKit

theorem foldl_bytes : ∀ (l : List UInt8) (s : ByteArray), (l.map fun x => (x.toNat : Int)).foldl (fun r n => r.push (UInt8.ofNat n.toNat)) s = ⟨(s.data.toList ++ l).toArray⟩
  | [], s => by simp
  | x :: l, s => by
    simp only [List.map_cons, List.foldl_cons]
    rw [foldl_bytes l]
    simp [ByteArray.push]
/-- 'string(b)' of bytes that lie somewhere. -/
theorem run_str_of {P : Program} {w : World} {A : Option Addr} {L : List UInt8} (src dst e : TypeId) (cap : Nat) (hs : P.underlying src = some (.slice e)) (he : P.underlying e = some (.int .u8)) (hd : P.underlying dst = some .string) (hB : Bs w A L) :
    (convert src dst (.slice A L.length cap)).run P w = .ok (.string ⟨L.toArray⟩) w := by
  cases A with
  | none =>
    have h0 : L = [] := by
      cases L with
      | nil => rfl
      | cons c L => obtain ⟨b, off, e, _⟩ := hB (by simp); cases e
    subst h0
    exact run_convert_bytes_nil w src e hs he _ _ dst hd
  | some ad =>
    rw [run_convert_bytes_string w src dst e _ _ _ hs he hd]
    have h1 : (loadCells ad L.length).run P w = .ok ((L.map fun x => (x.toNat : Int)).map (Value.int .u8)).toArray w := by
      have := run_loadCells_list (P := P) (w := w) ad (Lib.byteCells L) (fun j v hv => bs_cells hB j v hv)
      rw [Lib.byteCells_length] at this
      rw [this]
      simp [Lib.byteCells, Function.comp]
    rw [run_bytesToString w _ _ _ _ h1, foldl_bytes]
    rfl
end Go.Proofs.Ytmmclglbjjfcgaa
