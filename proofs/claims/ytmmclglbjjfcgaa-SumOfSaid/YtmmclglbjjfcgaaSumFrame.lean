/- What every law's frame of the sum needs: a slice of bytes that came in, opened: its bytes, where they lie, how many there may be. -/
import Derived.Test.YtmmclglbjjfcgaaSumStr
import Derived.Test.YtmmclglbjjfcgaaRows
import Derived.ProofKit
import Derived.SizedLaws
import Derived.Carry
import Derived.OpenShut
namespace Go.Proofs.Ytmmclglbjjfcgaa
open Go.ChangeShapes Go.WideShapes Go.ChangeAt Go.RowKit

theorem own : ownKnob Try.prog.godebug = none := by kernel_rfl
theorem laidOut : laidOutB Try.prog = true := by kernel_rfl

/-- A place among n, as a natural number. -/
theorem place_nat (v : Int) (n : Nat) (h0 : -9223372036854775808 ≤ v) (h1 : v ≤ 9223372036854775807) (hn : 1 ≤ n) (hn1 : n ≤ 4611686018427387904) :
    ∃ k : Nat, k < n ∧ ∀ w : World, Calls Try.prog 14 #[.int .i64 v, .int .i64 n] w fun e w' => e = .returned (.int .i64 (k : Int)) ∧ w = w' := by
  have lo := placeZ_lo v n (by omega)
  have hi := placeZ_hi v n (by omega)
  refine ⟨(placeZ v n).toNat, by omega, fun w => ?_⟩
  have c := place_any v n w h0 h1 (by omega) (by omega)
  rwa [show (((placeZ v n).toNat : Nat) : Int) = placeZ v n by omega]
theorem bs_take {w : World} {A : Option Addr} {L : List UInt8} (h : Bs w A L) (k : Nat) : Bs w A (L.take k) := fun h0 => by
  rw [List.length_take] at h0
  obtain ⟨b, off, e, hc⟩ := h (by omega)
  refine ⟨b, off, e, fun j hj => ?_⟩
  rw [List.length_take] at hj
  rw [hc j (by omega), List.getD_eq_getElem?_getD, List.getD_eq_getElem?_getD, List.getElem?_take, if_pos (by omega)]
theorem bs_drop {w : World} {A : Option Addr} {L : List UInt8} (h : Bs w A L) (k cap : Nat) (hk : L.length ≤ cap) : Bs w (if cap = k then A else A.map (·.add k)) (L.drop k) := fun h0 => by
  rw [List.length_drop] at h0
  obtain ⟨b, off, rfl, hc⟩ := h (by omega)
  rw [if_neg (by omega)]
  refine ⟨b, off + k, by show some ((⟨b, off, none⟩ : Addr).add k) = _; rw [add_plain], fun j hj => ?_⟩
  rw [List.length_drop] at hj
  rw [Nat.add_assoc, hc (k + j) (by omega), List.getD_eq_getElem?_getD, List.getD_eq_getElem?_getD, List.getElem?_drop]
theorem Bs.drew {w : World} {A : Option Addr} {L : List UInt8} (h : Bs w A L) : Bs w.drew A L := h

theorem byteOf (n : Int) (h0 : 0 ≤ n) (h1 : n ≤ 255) : ((UInt8.ofNat n.toNat).toNat : Int) = n := by simp; omega
theorem bs_of_ints {w : World} {a : Addr} {len : Nat} {zs : List Int} (hl : len ≤ zs.length) (hc : ∀ i, i < zs.length → w.cell? (a.add i) = some (.int .u8 (zs.getD i 0))) (hw : ∀ n ∈ zs, (Lit.int .u8 n).wf = true) :
    ∃ L : List UInt8, L.length = len ∧ Bs w (some a) L := by
  refine ⟨(zs.take len).map fun n => UInt8.ofNat n.toNat, by rw [List.length_map, List.length_take]; omega, fun h0 => ?_⟩
  rw [List.length_map, List.length_take] at h0
  obtain ⟨b, off, rfl, hc2⟩ := ints_at hc (by omega)
  refine ⟨b, off, rfl, fun j hj => ?_⟩
  rw [List.length_map, List.length_take] at hj
  have hj2 : j < zs.length := by omega
  rw [hc2 j hj2]
  have hb := bounds_u8 (hw zs[j] (List.getElem_mem hj2))
  have e : ((zs.take len).map fun n => UInt8.ofNat n.toNat).getD j 0 = UInt8.ofNat (zs[j]).toNat := by
    rw [List.getD_eq_getElem?_getD, List.getElem?_map, List.getElem?_take, if_pos (by omega), List.getElem?_eq_getElem hj2]; rfl
  rw [e, byteOf _ hb.1 hb.2, List.getD_eq_getElem?_getD, List.getElem?_eq_getElem hj2]
  rfl

/-- A slice of bytes that came in. -/
theorem open_bytes {H : Type} {enc : TypeId × Value → H} {P : Program} {w : World} {base : Nat} {t e : TypeId} {v : Value} {d : DataW H} {p : List MemPlace} (ht : P.underlying t = some (.slice e)) (he : P.underlying e = some (.int .u8)) (hc : P.cellsOf e = 1)
    (hval : Value.okWide P w .any base t v) (h : DataW.Trod enc P w 0 (fun _ => true) true t v d p) (hs : ∀ elems spare, d = .slice elems spare → (elems.length + spare.length) * 1 ≤ reachBytes) :
    ∃ (A : Option Addr) (L : List UInt8) (cap : Nat), v = .slice A L.length cap ∧ L.length ≤ cap ∧ cap ≤ 140737488351232 ∧ Bs w A L ∧ (A = none → cap = 0) := by
  obtain ⟨a0, len0, cap0, rfl⟩ := okWide_slice ht hval
  obtain ⟨fuel, hf⟩ := h
  rcases open_ints ht he hc hf with ⟨hcs, hx⟩ | ⟨a, len, cap, zs, hcs, _, hl, hm, hz, hx, hcell, hwz⟩
  · simp [Value.cells] at hcs
    obtain ⟨rfl, rfl, rfl⟩ := hcs
    exact ⟨none, [], 0, rfl, Nat.le_refl _, by omega, Bs.nil _ _, fun _ => rfl⟩
  · simp [Value.cells] at hcs
    obtain ⟨rfl, rfl, rfl⟩ := hcs
    simp only [Prod.mk.injEq] at hx
    obtain ⟨rfl, rfl⟩ := hx
    simp only [if_true] at hz
    obtain ⟨L, rfl, hB⟩ := bs_of_ints (len := len0) (by omega) hcell hwz
    have := hs _ _ rfl
    simp only [lits, List.length_map, List.length_take, List.length_drop, reachBytes] at this
    exact ⟨some a, L, cap0, rfl, hl, by omega, hB, fun h => by cases h⟩
end Go.Proofs.Ytmmclglbjjfcgaa
