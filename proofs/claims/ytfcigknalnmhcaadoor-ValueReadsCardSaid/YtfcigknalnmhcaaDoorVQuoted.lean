/- The contract of value.byNumber: a rune below 160 as \u and four digits. -/
import Derived.Test.YtfcigknalnmhcaaDoorOnto
import Derived.IntWalk
import Derived.Laws.BitsAllLaws
namespace Go.Proofs.YtfcigknalnmhcaaDoor
open Go.RowKit

theorem shr_and (r k : Nat) (h : r < 160) (hk : k = 0 ∨ k = 4 ∨ k = 8 ∨ k = 12) : bits .and .i32 ((r : Int) / 2 ^ k) 15 = ((r / 2 ^ k % 16 : Nat) : Int) := by
  have key : ∀ r : Fin 160, ∀ k : Fin 4, bits .and .i32 (((r.val : Nat) : Int) / 2 ^ (k.val * 4)) 15 = ((r.val / 2 ^ (k.val * 4) % 16 : Nat) : Int) := by decide +kernel
  rcases hk with rfl | rfl | rfl | rfl
  · exact key ⟨r, h⟩ 0
  · exact key ⟨r, h⟩ 1
  · exact key ⟨r, h⟩ 2
  · exact key ⟨r, h⟩ 3
def hexS : ByteArray := ⟨#[48, 49, 50, 51, 52, 53, 54, 55, 56, 57, 97, 98, 99, 100, 101, 102]⟩
theorem hexS_at (z : Int) (d : Nat) (h : d < 16) (hz : z.toNat = d) (hl : z.toNat < hexS.size) : hexS[z.toNat] = hx d := by
  subst hz
  have key : ∀ d : Fin 16, hexS[d.val]'d.isLt = hx d.val := by decide +kernel
  exact key ⟨_, h⟩
theorem hex_take (r k : Nat) (h : k < 4) : (hexL r).take (k + 1) = (hexL r).take k ++ [hx (r / 2 ^ (12 - 4 * k) % 16)] := by
  have : k = 0 ∨ k = 1 ∨ k = 2 ∨ k = 3 := by omega
  rcases this with rfl | rfl | rfl | rfl
  · rfl
  · rfl
  · rfl
  · simp [hexL]
/-- A constant row of bytes, converted. -/
theorem bs_two (w : World) (a b : UInt8) (t : TypeId) (z : Nat × Nat) : Bs (w.alloc (.cells #[.int .u8 (a.toNat : Int), .int .u8 (b.toNat : Int)] t z)) (some ⟨w.heap.size, 0, none⟩) [a, b] := by
  refine fun _ => ⟨_, 0, rfl, fun j hj => ?_⟩
  rw [Nat.zero_add, cell_of_row _ _ j _ t z (heap_alloc_new w _)]
  simp only [List.length_cons, List.length_nil] at hj
  have : j = 0 ∨ j = 1 := by omega
  rcases this with rfl | rfl <;> rfl
theorem onto_bs {B : Nat} {w : World} {v : Value} {L : List UInt8} (h : Onto B w v L) : ∃ A cap, v = .slice A L.length cap ∧ Bs w A L := by
  rcases h with ⟨A, rfl, h⟩ | h
  · exact ⟨A, _, rfl, h⟩
  · exact bs_own h
/-- The bytes so far. -/
def NumRel (r : Nat) (w : World) (k : Nat) (b : Value) (M : List UInt8) (wr : World) : Prop :=
  k ≤ 4 ∧ M = 92 :: 117 :: (hexL r).take k ∧ Onto w.heap.size wr b M ∧ Below w.heap.size w wr
set_option maxHeartbeats 1000000 in
set_option maxRecDepth 100000 in
theorem byNumber_any (r : Nat) (w : World) (h : r < 160) :
    Calls Tryd.prog 83 #[.int .i32 r] w fun e w' => e = .returned (.string ⟨(92 :: 117 :: hexL r).toArray⟩) ∧ Below w.heap.size w w' := by
  have kc := fun (w : World) (C : Array Value) (n c : Nat) => Lib.run_convert_bytes_const (P := Tryd.prog) w 48 5 C n c Tryd.underlying48 Tryd.underlying5
  have h0 : NumRel r w 0 (.slice (some ⟨w.heap.size, 0, none⟩) 2 2) [92, 117] (w.alloc (.cells #[.int .u8 92, .int .u8 117] 5 (2, 3))) :=
    ⟨by omega, rfl, Onto.of_full (L := [92, 117]) (bs_two w 92 117 _ _), below_alloc w _⟩
  have H0 := Lib.hid h0
  clear h0
  go_enter Tryd.func83, Tryd.ntmps83
  go_wp2
  go_loopw [3, 4] (fun b sh wr => ∃ (k : Nat) (M : List UInt8), sh = .int .i64 (12 - 4 * (k : Int)) ∧ NumRel r w k b M wr) (fun _ sh _ => (intOf sh + 4).toNat)
  case atStart => exact ⟨0, [92, 117], rfl, H0.out⟩
  case round =>
    obtain ⟨k, M, rfl, hr⟩ := hrel
    have hk : k ≤ 4 := hr.1
    have hsz : w.heap.size ≤ wr.heap.size := hr.2.2.2.size
    have hlen : M.length + 1 ≤ 140737488355328 := by rw [hr.2.1]; simp; omega
    have HR := Lib.hid hr
    clear hr H0 kc
    by_cases h4 : k < 4
    · have hge : 0 ≤ 12 - 4 * (k : Int) := by omega
      have hd : r / 2 ^ (12 - 4 * k) % 16 < 16 := Nat.mod_lt _ (by decide)
      have hsa := shr_and r (12 - 4 * k) h (by omega)
      go_wp2_with (at_builtin; go_loud (refine wpList_append_onto rfl (.tmp 11) (.tmp 17) rfl w.heap.size _ M [_] rfl (HR.out.2.2.1.alloc _) ⟨wr.heap.size, 0, none⟩ 1 rfl (bs_new _ _ _ _) (Nat.le_refl 1) hlen (by simp; omega) ?_; intro b' w' ho hb))
      go_roundw
      case rel =>
        refine ⟨k + 1, _, by go_num, by omega, ?_, Onto.of_own ho, (HR.out.2.2.2.alloc hsz _).trans hb⟩
        rw [HR.out.2.1, hex_take r k h4]
        refine congrArg (fun c => 92 :: 117 :: (List.take k (hexL r) ++ [c])) (hexS_at ((r : Int) / 2 ^ (12 - 4 * k) % 16) _ hd ?_ ?_)
        · have e : (r : Int) / 2 ^ (12 - 4 * k) % 16 = ((r / 2 ^ (12 - 4 * k) % 16 : Nat) : Int) := by push_cast; rfl
          rw [e, Int.toNat_natCast]
      case measure => simp [intOf]; omega
    · have hlt : 12 - 4 * (k : Int) < 0 := by omega
      obtain rfl : k = 4 := by omega
      obtain ⟨A, cap, rfl, hBs⟩ := onto_bs HR.out.2.2.1
      have hM := HR.out.2.1
      rw [show (hexL r).take 4 = hexL r from rfl] at hM
      have hsz6 : M.length = 6 := by rw [hM]; rfl
      have ks := run_str_of (P := Tryd.prog) (w := wr) 48 9 5 cap Tryd.underlying48 Tryd.underlying5 Tryd.underlying9 hBs
      obtain ⟨S, hS⟩ : ∃ S : ByteArray, (⟨M.toArray⟩ : ByteArray) = S := ⟨_, rfl⟩
      rw [hS, hsz6] at ks
      rw [hsz6]
      have HS := Lib.hid hS
      have HM := Lib.hid hM
      clear hS hM hBs hsz6
      go_wp2
      go_ret
      exact ⟨ret_str (by rw [← HS.out, HM.out]), HR.out.2.2.2⟩
end Go.Proofs.YtfcigknalnmhcaaDoor
