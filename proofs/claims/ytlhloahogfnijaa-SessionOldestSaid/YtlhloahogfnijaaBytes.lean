/- What laws on bytes share: bytes that lie somewhere; bytes in new memory; a place among n; a text made of bytes; a slice of bytes that came in, opened. -/
import Derived.Test.YtlhloahogfnijaaProg
import Derived.Test.YtlhloahogfnijaaRows
import Derived.WalkKit
import Derived.WalkMore
import Derived.LoopTactic
import Derived.WalkLawsBesides
import Derived.WalkSpells
import Derived.Below
import Derived.Lib.Hide
import Derived.Laws.AppendOwnNone
import Derived.Laws.BytesArg
import Derived.Laws.BytesString
import Derived.Lib.UnsafeStr
import Derived.Maps.AppendAt
import Derived.RegionTactic
import Derived.Lib.SlBytesConst
import Derived.ProofKit
import Derived.SizedLaws
import Derived.Carry
import Derived.OpenShut
namespace Go.Proofs.Ytlhloahogfnijaa
open Go.ChangeShapes Go.WideShapes Go.ChangeAt Go.RowKit

theorem own : ownKnob Try.prog.godebug = none := by kernel_rfl
theorem laidOut : laidOutB Try.prog = true := by kernel_rfl
theorem ret_int {k : IntKind} {a b : Int} (h : a = b) : Ending.returned (.int k a) = .returned (.int k b) := by rw [h]
theorem flip_w {f : FuncId} {xs : Array Value} {v : Value} {w : World} (h : Calls Try.prog f xs w fun e w' => e = .returned v ∧ w = w') : Calls Try.prog f xs w fun e w' => e = .returned v ∧ w' = w :=
  h.mono fun _ _ ⟨he, hw⟩ => ⟨he, hw.symm⟩

/-- The bytes L lie where the slice begins. -/
def Bs (w : World) (A : Option Addr) (L : List UInt8) : Prop := 0 < L.length → ∃ b off, A = some ⟨b, off, none⟩ ∧ ∀ j, j < L.length → w.cell? ⟨b, off + j, none⟩ = some (.int .u8 ((L.getD j 0).toNat : Int))
theorem Bs.nil (w : World) (A : Option Addr) : Bs w A [] := fun h => absurd h (by decide)
theorem Bs.lt {w : World} {b off : Nat} {L : List UInt8} (h0 : 0 < L.length) (h : ∀ j, j < L.length → w.cell? ⟨b, off + j, none⟩ = some (.int .u8 ((L.getD j 0).toNat : Int))) : b < w.heap.size := by
  have := h 0 h0
  rcases Nat.lt_or_ge b w.heap.size with hlt | hge
  · exact hlt
  · simp [World.cell?, Array.getElem?_eq_none hge] at this
theorem Bs.below {w w' : World} {A : Option Addr} {L : List UInt8} (h : Bs w A L) (hb : Below w.heap.size w w') : Bs w' A L := fun h0 => by
  obtain ⟨b, off, e, hc⟩ := h h0
  have hl := Bs.lt h0 hc
  exact ⟨b, off, e, fun j hj => (hb.cell (p := ⟨b, off + j, none⟩) hl).trans (hc j hj)⟩
theorem byte_hi (c : UInt8) : (c.toNat : Int) ≤ 255 := by have := c.toNat_lt; omega

theorem bs_own {w : World} {B : Nat} {e : TypeId} {v : Value} {L : List UInt8} (h : w.ownsRow B e 1 v L.length (Lib.byteCells L)) :
    ∃ A cap, v = .slice A L.length cap ∧ Bs w A L := by
  have h' := h
  rcases h.2 with ⟨rfl, hn⟩ | ⟨g, cap, cur, rfl, hbg, hg, hnc, hcm, rest⟩
  · exact ⟨none, 0, by rw [hn], fun hp => absurd hp (by omega)⟩
  · refine ⟨_, cap, rfl, fun _ => ⟨g, 0, rfl, fun j hj => ?_⟩⟩
    rw [Nat.zero_add, h'.cellAt j (by omega)]
    unfold Lib.byteCells
    rw [List.getElem?_map, List.getElem?_eq_getElem hj, List.getD_eq_getElem?_getD, List.getElem?_eq_getElem hj]
    rfl
theorem bytes_one (l : List UInt8) : ∀ v ∈ Lib.byteCells l, v.oneCell' = true := by
  intro v hv; unfold Lib.byteCells at hv; obtain ⟨x, _, rfl⟩ := List.mem_map.1 hv; rfl
theorem bs_cells {w : World} {ad : Addr} {L : List UInt8} (h : Bs w (some ad) L) : ∀ j u, (Lib.byteCells L)[j]? = some u → w.cell? (ad.add j) = some u := by
  intro j u hu
  have hj : j < L.length := by
    have := (List.getElem?_eq_some_iff.1 hu).1
    rwa [Lib.byteCells_length] at this
  obtain ⟨b, off, e, hc⟩ := h (by omega)
  injection e with e
  subst e
  have e2 : (⟨b, off, none⟩ : Addr).add j = ⟨b, off + j, none⟩ := by unfold Addr.add; split <;> simp_all
  rw [e2, hc j hj, ← hu]
  unfold Lib.byteCells
  rw [List.getElem?_map, List.getElem?_eq_getElem hj, List.getD_eq_getElem?_getD, List.getElem?_eq_getElem hj]
  rfl

def placeZ (v n : Int) : Int := v % n
theorem placeZ_lo (v n : Int) (hn : 0 < n) : 0 ≤ placeZ v n := Int.emod_nonneg _ (by omega)
theorem placeZ_hi (v n : Int) (hn : 0 < n) : placeZ v n < n := Int.emod_lt_of_pos _ hn
theorem tmod_neg (v n : Int) (hv : v < 0) (hn : 1 ≤ n) : -n < v.tmod n ∧ v.tmod n ≤ 0 := by
  have h1 : (-v).tmod n = -(v.tmod n) := Int.neg_tmod _ _
  have h2 : (-v).tmod n = (-v) % n := Int.tmod_eq_emod_of_nonneg (by omega)
  have h3 := Int.emod_nonneg (-v) (show n ≠ 0 by omega)
  have h4 := Int.emod_lt_of_pos (-v) (show 0 < n by omega)
  omega
theorem placeZ_tmod (v n : Int) : placeZ v n = placeZ (v.tmod n) n := by
  unfold placeZ
  have h := Int.mul_tdiv_add_tmod v n
  have h2 : (n * v.tdiv n + v.tmod n) % n = v.tmod n % n := by rw [Int.add_comm]; exact Int.add_mul_emod_self_left ..
  rw [h] at h2
  exact h2
theorem placeZ_low {t n : Int} (h0 : 0 ≤ t + n) (h1 : t < 0) : t + n = placeZ t n := by
  unfold placeZ
  rw [← Int.add_emod_right]
  exact (Int.emod_eq_of_lt h0 (by omega)).symm
theorem placeZ_high {t n : Int} (h0 : 0 ≤ t) (h1 : t < n) : t = placeZ t n := (Int.emod_eq_of_lt h0 h1).symm

set_option maxHeartbeats 400000 in
theorem place_any (v n : Int) (w : World) (h0 : -9223372036854775808 ≤ v) (h1 : v ≤ 9223372036854775807) (hn : 1 ≤ n) (hn1 : n ≤ 4611686018427387904) :
    Calls Try.prog 4 #[.int .i64 v, .int .i64 n] w fun e w' => e = .returned (.int .i64 (placeZ v n)) ∧ w = w' := by
  by_cases hv : 0 ≤ v
  · have hp : v % n = placeZ v n := rfl
    have hlo := placeZ_lo v n (by omega)
    go_enter Try.func4, Try.ntmps4
    go_wp2
    go_ret
    exact ⟨rfl, rfl⟩
  · obtain ⟨ht0, ht1⟩ := tmod_neg v n (by omega) hn
    have hpt := placeZ_tmod v n
    have HP := Lib.hid hpt
    clear hpt
    go_enter Try.func4, Try.ntmps4
    go_wp2
    · have hlt : v.tmod n < 0 := by assumption
      go_ret
      exact ⟨ret_int (by rw [HP.out]; exact placeZ_low (by omega) hlt), rfl⟩
    · have hge : 0 ≤ v.tmod n := by assumption
      go_ret
      exact ⟨ret_int (by rw [HP.out]; exact placeZ_high hge (by omega)), rfl⟩

theorem foldl_bytes : ∀ (l : List UInt8) (s : ByteArray), (l.map fun x => (x.toNat : Int)).foldl (fun r n => r.push (UInt8.ofNat n.toNat)) s = ⟨(s.data.toList ++ l).toArray⟩
  | [], s => by simp
  | x :: l, s => by
    simp only [List.map_cons, List.foldl_cons]
    rw [foldl_bytes l]
    simp [ByteArray.push]
/-- 'string(b)' of bytes that lie somewhere. -/
theorem run_str_of {P : Program} {w : World} {A : Option Addr} {L : List UInt8} (src dst e : TypeId) (cap : Nat) (hs : P.underlying src = some (.slice e)) (he : P.underlying e = some (.int .u8)) (hd : P.underlying dst = some .string) (hB : Bs w A L) :
    (convert src dst (.slice A L.length cap)).run P w = .ok (.string ⟨L.toArray⟩) w := by
  cases A with
  | none =>
    have h0 : L = [] := by
      cases L with
      | nil => rfl
      | cons c L => obtain ⟨b, off, e, _⟩ := hB (by simp); cases e
    subst h0
    exact run_convert_bytes_nil w src e hs he _ _ dst hd
  | some ad =>
    rw [run_convert_bytes_string w src dst e _ _ _ hs he hd]
    have h1 : (loadCells ad L.length).run P w = .ok ((L.map fun x => (x.toNat : Int)).map (Value.int .u8)).toArray w := by
      have := run_loadCells_list (P := P) (w := w) ad (Lib.byteCells L) (fun j v hv => bs_cells hB j v hv)
      rw [Lib.byteCells_length] at this
      rw [this]
      simp [Lib.byteCells, Function.comp]
    rw [run_bytesToString w _ _ _ _ h1, foldl_bytes]
    rfl
theorem size_reach {s : ByteArray} (h : s.data.toList.length ≤ reachBytes) : s.size ≤ 140737488351232 := by
  rw [show s.data.toList.length = s.size by simp] at h
  exact h
/-- A place among n, as a natural number. -/
theorem place_nat (v : Int) (n : Nat) (h0 : -9223372036854775808 ≤ v) (h1 : v ≤ 9223372036854775807) (hn : 1 ≤ n) (hn1 : n ≤ 4611686018427387904) :
    ∃ k : Nat, k < n ∧ ∀ w : World, Calls Try.prog 4 #[.int .i64 v, .int .i64 n] w fun e w' => e = .returned (.int .i64 (k : Int)) ∧ w = w' := by
  have lo := placeZ_lo v n (by omega)
  have hi := placeZ_hi v n (by omega)
  refine ⟨(placeZ v n).toNat, by omega, fun w => ?_⟩
  have c := place_any v n w h0 h1 (by omega) (by omega)
  rwa [show (((placeZ v n).toNat : Nat) : Int) = placeZ v n by omega]
theorem bs_take {w : World} {A : Option Addr} {L : List UInt8} (h : Bs w A L) (k : Nat) : Bs w A (L.take k) := fun h0 => by
  rw [List.length_take] at h0
  obtain ⟨b, off, e, hc⟩ := h (by omega)
  refine ⟨b, off, e, fun j hj => ?_⟩
  rw [List.length_take] at hj
  rw [hc j (by omega), List.getD_eq_getElem?_getD, List.getD_eq_getElem?_getD, List.getElem?_take, if_pos (by omega)]
theorem bs_drop {w : World} {A : Option Addr} {L : List UInt8} (h : Bs w A L) (k cap : Nat) (hk : L.length ≤ cap) : Bs w (if cap = k then A else A.map (·.add k)) (L.drop k) := fun h0 => by
  rw [List.length_drop] at h0
  obtain ⟨b, off, rfl, hc⟩ := h (by omega)
  rw [if_neg (by omega)]
  refine ⟨b, off + k, by show some ((⟨b, off, none⟩ : Addr).add k) = _; rw [add_plain], fun j hj => ?_⟩
  rw [List.length_drop] at hj
  rw [Nat.add_assoc, hc (k + j) (by omega), List.getD_eq_getElem?_getD, List.getD_eq_getElem?_getD, List.getElem?_drop]
theorem Bs.drew {w : World} {A : Option Addr} {L : List UInt8} (h : Bs w A L) : Bs w.drew A L := h

theorem byteOf (n : Int) (h0 : 0 ≤ n) (h1 : n ≤ 255) : ((UInt8.ofNat n.toNat).toNat : Int) = n := by simp; omega
theorem bs_of_ints {w : World} {a : Addr} {len : Nat} {zs : List Int} (hl : len ≤ zs.length) (hc : ∀ i, i < zs.length → w.cell? (a.add i) = some (.int .u8 (zs.getD i 0))) (hw : ∀ n ∈ zs, (Lit.int .u8 n).wf = true) :
    ∃ L : List UInt8, L.length = len ∧ Bs w (some a) L := by
  refine ⟨(zs.take len).map fun n => UInt8.ofNat n.toNat, by rw [List.length_map, List.length_take]; omega, fun h0 => ?_⟩
  rw [List.length_map, List.length_take] at h0
  obtain ⟨b, off, rfl, hc2⟩ := ints_at hc (by omega)
  refine ⟨b, off, rfl, fun j hj => ?_⟩
  rw [List.length_map, List.length_take] at hj
  have hj2 : j < zs.length := by omega
  rw [hc2 j hj2]
  have hb := bounds_u8 (hw zs[j] (List.getElem_mem hj2))
  have e : ((zs.take len).map fun n => UInt8.ofNat n.toNat).getD j 0 = UInt8.ofNat (zs[j]).toNat := by
    rw [List.getD_eq_getElem?_getD, List.getElem?_map, List.getElem?_take, if_pos (by omega), List.getElem?_eq_getElem hj2]; rfl
  rw [e, byteOf _ hb.1 hb.2, List.getD_eq_getElem?_getD, List.getElem?_eq_getElem hj2]
  rfl

/-- A slice of bytes that came in. -/
theorem open_bytes {H : Type} {enc : TypeId × Value → H} {P : Program} {w : World} {base : Nat} {t e : TypeId} {v : Value} {d : DataW H} {p : List MemPlace} (ht : P.underlying t = some (.slice e)) (he : P.underlying e = some (.int .u8)) (hc : P.cellsOf e = 1)
    (hval : Value.okWide P w .any base t v) (h : DataW.Trod enc P w 0 (fun _ => true) true t v d p) (hs : ∀ elems spare, d = .slice elems spare → (elems.length + spare.length) * 1 ≤ reachBytes) :
    ∃ (A : Option Addr) (L : List UInt8) (cap : Nat), v = .slice A L.length cap ∧ L.length ≤ cap ∧ cap ≤ 140737488351232 ∧ Bs w A L ∧ (A = none → cap = 0) := by
  obtain ⟨a0, len0, cap0, rfl⟩ := okWide_slice ht hval
  obtain ⟨fuel, hf⟩ := h
  rcases open_ints ht he hc hf with ⟨hcs, hx⟩ | ⟨a, len, cap, zs, hcs, _, hl, hm, hz, hx, hcell, hwz⟩
  · simp [Value.cells] at hcs
    obtain ⟨rfl, rfl, rfl⟩ := hcs
    exact ⟨none, [], 0, rfl, Nat.le_refl _, by omega, Bs.nil _ _, fun _ => rfl⟩
  · simp [Value.cells] at hcs
    obtain ⟨rfl, rfl, rfl⟩ := hcs
    simp only [Prod.mk.injEq] at hx
    obtain ⟨rfl, rfl⟩ := hx
    simp only [if_true] at hz
    obtain ⟨L, rfl, hB⟩ := bs_of_ints (len := len0) (by omega) hcell hwz
    have := hs _ _ rfl
    simp only [lits, List.length_map, List.length_take, List.length_drop, reachBytes] at this
    exact ⟨some a, L, cap0, rfl, hl, by omega, hB, fun h => by cases h⟩
end Go.Proofs.Ytlhloahogfnijaa
