/- Contract of wire.PutInt: the number's bytes behind any bytes, in memory of the call's own. -/
import Derived.Test.YtfcigknalnmhcaaDoorOnto
import Derived.Test.YtfcigknalnmhcaaDoorWireSmall
import Derived.Laws.BitsAllLaws
import Derived.Outline
namespace Go.Proofs.YtfcigknalnmhcaaDoor
open Go.RowKit

theorem and_127 (x : Nat) (h : x < 18446744073709551616) : bits .and .u64 (x : Int) 127 = ((x % 128 : Nat) : Int) := by
  have h2 : bits .and .u64 (x : Int) 127 = ((x &&& 127 : Nat) : Int) := u64_and_nat x 127 h (by decide)
  rw [h2, show (127 : Nat) = 2 ^ 7 - 1 by rfl, Nat.and_two_pow_sub_one_eq_mod]
theorem or_128 (m : Nat) (h : m < 128) : bits .or .u8 (m : Int) 128 = ((UInt8.ofNat (m + 128)).toNat : Int) := by
  have h2 : bits .or .u8 (m : Int) 128 = ((m ||| 128 : Nat) : Int) := u8_or_nat m 128 (by omega) (by decide)
  have h3 : 2 ^ 7 * 1 + m = 2 ^ 7 * 1 ||| m := Nat.two_pow_add_eq_or_of_lt (i := 7) h 1
  rw [h2, u8w_of (by omega), Nat.or_comm, show (128 : Nat) = 2 ^ 7 * 1 by rfl, ← h3, Nat.add_comm]

/-- The bytes P were put, x is what is left of the number. -/
def PutRel (w : World) (v : Int) (L : List UInt8) (b : Value) (P : List UInt8) (x : Nat) (wr : World) : Prop :=
  P ++ enc x = putI v ∧ Onto w.heap.size wr b (L ++ P) ∧ Below w.heap.size w wr ∧ x < 18446744073709551616
section
variable {w wr : World} {v : Int} {L P : List UInt8} {b : Value} {x : Nat}
theorem PutRel.start (h : uz v < 18446744073709551616) (ho : Onto w.heap.size w b L) : PutRel w v L b [] (uz v) w :=
  ⟨rfl, by rwa [List.append_nil], Below.refl _ _, h⟩
theorem PutRel.hi (h : PutRel w v L b P x wr) : x ≤ 18446744073709551615 := by have := h.2.2.2; omega
theorem PutRel.len (h : PutRel w v L b P x wr) (h0 : -9223372036854775808 ≤ v) (h1 : v ≤ 9223372036854775807) : P.length + 1 ≤ 10 := by
  have := putI_ten h0 h1
  rw [← h.1, List.length_append] at this
  have := enc_pos x
  omega
theorem PutRel.next (h : PutRel w v L b P x wr) (hx : ¬ x < 128) {c : UInt8} (hc : c = UInt8.ofNat (x % 128 + 128)) (o : Obj) {b' : Value} {w' : World}
    (ho : w'.ownsRow w.heap.size 5 1 b' (L ++ P ++ [c]).length (Lib.byteCells (L ++ P ++ [c]))) (hb : Below w.heap.size (wr.alloc o) w') : PutRel w v L b' (P ++ [c]) (x / 128) w' := by
  obtain ⟨h1, h2, h3, h4⟩ := h
  refine ⟨?_, .inr (by rwa [← List.append_assoc]), (h3.alloc h3.size o).trans hb, by omega⟩
  rw [enc_high hx, ← hc] at h1
  rw [← h1, List.append_assoc]
  rfl
theorem PutRel.last (h : PutRel w v L b P x wr) (hx : x < 128) {c : UInt8} (hc : c = UInt8.ofNat x) (o : Obj) {b' : Value} {w' : World}
    (ho : w'.ownsRow w.heap.size 5 1 b' (L ++ P ++ [c]).length (Lib.byteCells (L ++ P ++ [c]))) (hb : Below w.heap.size (wr.alloc o) w') : OwnBytes w (L ++ putI v) (.returned b') w' := by
  obtain ⟨h1, h2, h3, h4⟩ := h
  rw [enc_low hx, ← hc] at h1
  rw [List.append_assoc, h1] at ho
  exact own_bytes ho ((h3.alloc h3.size o).trans hb)
end

set_option maxHeartbeats 400000 in
theorem putint_any (A : Option Addr) (L : List UInt8) (cap : Nat) (v : Int) (w : World) (hl : L.length + 10 ≤ 140737488355328) (hlc : L.length ≤ cap) (hB : Bs w A L) (h0 : -9223372036854775808 ≤ v) (h1 : v ≤ 9223372036854775807) :
    Calls Tryd.prog 62 #[.slice A L.length cap, .int .i64 v] w (OwnBytes w (L ++ putI v)) := by
  have hun := unsigned_any v w h0 h1
  have hul := uz_lt h0 h1
  have hfull : Onto w.heap.size w (.slice A L.length L.length) L := Onto.of_full hB
  go_enter Tryd.func62, Tryd.ntmps62
  go_wp2_with fail
  refine hun.mono ?_
  rintro e w' ⟨rfl, rfl⟩
  go_wp2_with fail
  clear hun
  go_loopw [0, 5] (fun b u wr => ∃ (P : List UInt8) (x : Nat), u = .int .u64 (x : Int) ∧ PutRel w v L b P x wr) (fun _ u _ => (intOf u).toNat)
  case atStart => exact ⟨[], uz v, rfl, PutRel.start hul hfull⟩
  case round =>
    clear hfull hul hB hlc
    obtain ⟨P, x, rfl, hr⟩ := hrel
    have hx := hr.hi
    have hP := hr.len h0 h1
    have hlen : (L ++ P).length + 1 ≤ 140737488355328 := by rw [List.length_append]; omega
    have hsz := hr.2.2.1.size
    have HR := Lib.hid hr
    clear hr
    by_cases hlt : x < 128
    · obtain ⟨c, hc⟩ : ∃ c, c = UInt8.ofNat x := ⟨_, rfl⟩
      have hcx : (x : Int) = (c.toNat : Int) := by rw [hc, u8w_of (by omega)]
      have HC := Lib.hid hc
      have HCX := Lib.hid hcx
      clear hc hcx
      go_wp2_with (at_builtin; go_loud (refine wpList_append_onto rfl (.tmp 25) (.tmp 28) rfl w.heap.size _ (L ++ P) [c] rfl (HR.out.2.1.alloc _) ⟨wr.heap.size, 0, none⟩ 1 rfl (by rw [HCX.out]; exact bs_new _ _ _ _) (Nat.le_refl 1) hlen (by simp; omega) ?_; intro b' w' ho hb))
      go_ret
      exact HR.out.last hlt HC.out _ ho hb
    · obtain ⟨c, hc⟩ : ∃ c, c = UInt8.ofNat (x % 128 + 128) := ⟨_, rfl⟩
      have hb1 := and_127 x (by omega)
      have hb2 := or_128 (x % 128) (by omega)
      rw [← hc] at hb2
      have hm : x % 128 < 128 := by omega
      have HC := Lib.hid hc
      clear hc
      generalize hq : x % 128 = m at hb1 hb2 hm
      clear hq
      go_wp2_with (at_builtin; go_loud (refine wpList_append_onto rfl (.tmp 18) (.tmp 23) rfl w.heap.size _ (L ++ P) [c] rfl (HR.out.2.1.alloc _) ⟨wr.heap.size, 0, none⟩ 1 rfl (bs_new _ _ _ _) (Nat.le_refl 1) hlen (by simp; omega) ?_; intro b' w' ho hb))
      go_roundw
      case rel => exact ⟨P ++ [c], x / 128, by go_num, HR.out.next hlt HC.out _ ho hb⟩
      case measure => simp [intOf]; omega
end Go.Proofs.YtfcigknalnmhcaaDoor
