/- Contracts of the document's own Int and Bool: a number's bytes, a truth's, in memory of the call's own. -/
import Derived.Test.YtfcigknalnmhcaaDoorPutInt
namespace Go.Proofs.YtfcigknalnmhcaaDoor
open Go.RowKit

theorem uz_up (v : Int) (h0 : 0 ≤ v) : (uz v : Int) = v * 2 := by rw [uz_pos h0]; omega
theorem uz_dn (v : Int) (h0 : v < 0) : (uz v : Int) = (-(v + 1)) * 2 + 1 := by rw [uz_neg h0]; omega
theorem add_128 (m : Nat) (h : m < 128) : (m : Int) + 128 = ((UInt8.ofNat (m + 128)).toNat : Int) := by rw [u8w_of (by omega)]; omega

set_option maxHeartbeats 400000 in
set_option maxRecDepth 100000 in
theorem refint_any (v : Int) (w : World) (h0 : -9223372036854775808 ≤ v) (h1 : v ≤ 9223372036854775807) :
    Calls Tryd.prog 64 #[.int .i64 v] w (OwnBytes w (putI v)) := by
  have hul := uz_lt h0 h1
  have hfull : Onto w.heap.size w (.slice none 0 0) [] := Onto.nil _ _
  obtain ⟨hu, h2⟩ | ⟨hu, h2⟩ : ((uz v : Int) = v * 2 ∧ 0 ≤ v) ∨ ((uz v : Int) = (-(v + 1)) * 2 + 1 ∧ v < 0) := by
    by_cases h : v < 0
    · exact .inr ⟨uz_dn v h, h⟩
    · exact .inl ⟨uz_up v (by omega), by omega⟩
  all_goals
    have HU := Lib.hid hu
    have HUL := Lib.hid hul
    clear hu hul
    go_enter Tryd.func64, Tryd.ntmps64
    go_wp2_with fail
    go_loopw [4, 3] (fun b u wr => ∃ (P : List UInt8) (x : Nat), u = .int .u64 (x : Int) ∧ PutRel w v [] b P x wr) (fun _ u _ => (intOf u).toNat)
    case atStart => exact ⟨[], uz v, by rw [HU.out], PutRel.start HUL.out hfull⟩
    case round =>
      clear hfull HU HUL
      obtain ⟨P, x, rfl, hr⟩ := hrel
      have hx := hr.hi
      have hP := hr.len h0 h1
      have hlen : ([] ++ P).length + 1 ≤ 140737488355328 := by rw [List.nil_append]; omega
      have hsz := hr.2.2.1.size
      have HR := Lib.hid hr
      clear hr
      by_cases hlt : x < 128
      · obtain ⟨c, hc⟩ : ∃ c, c = UInt8.ofNat x := ⟨_, rfl⟩
        have hcx : (x : Int) = (c.toNat : Int) := by rw [hc, u8w_of (by omega)]
        have HC := Lib.hid hc
        have HCX := Lib.hid hcx
        clear hc hcx
        go_wp2_with (at_builtin; refine wpList_append_onto rfl (.tmp 27) (.tmp 30) rfl w.heap.size _ ([] ++ P) [c] rfl (HR.out.2.1.alloc _) ⟨wr.heap.size, 0, none⟩ 1 rfl (by rw [HCX.out]; exact bs_new _ _ _ _) (Nat.le_refl 1) hlen (by simp; omega) ?_; intro b' w' ho hb)
        go_ret
        exact HR.out.last hlt HC.out _ ho hb
      · obtain ⟨c, hc⟩ : ∃ c, c = UInt8.ofNat (x % 128 + 128) := ⟨_, rfl⟩
        have hb1 : (x : Int) % 128 = ((x % 128 : Nat) : Int) := by omega
        have hb2 := add_128 (x % 128) (by omega)
        rw [← hc] at hb2
        have hm : x % 128 < 128 := by omega
        have HC := Lib.hid hc
        clear hc
        generalize hq : x % 128 = m at hb1 hb2 hm
        clear hq
        go_wp2_with (at_builtin; (refine wpList_append_onto rfl (.tmp 18) (.tmp 23) rfl w.heap.size _ ([] ++ P) [c] rfl (HR.out.2.1.alloc _) ⟨wr.heap.size, 0, none⟩ 1 rfl (bs_new _ _ _ _) (Nat.le_refl 1) hlen (by simp; omega) ?_; intro b' w' ho hb))
        go_roundw
        case rel => exact ⟨P ++ [c], x / 128, by go_num, HR.out.next hlt HC.out _ ho hb⟩
        case measure => simp [intOf]; omega
end Go.Proofs.YtfcigknalnmhcaaDoor
