/- The contract of runes.Cut: for every string and every number it returns the first pieces' bytes; memory gains the iterator's block alone. -/
import Derived.Test.YtepppianhafdjaaGreatDoorGA
import Derived.Test.YtepppianhafdjaaGreatDoorGB
namespace Go.Proofs.YtepppianhafdjaaGreatDoor
open Go.RowKit

theorem cut_at (s : ByteArray) (pos : Nat) (m : Int) (h : pos < s.size) (hm : 1 ≤ m) :
    cutL (s.data.toList.drop pos) m.toNat = (s.data.toList.drop pos).take (Utf8.decode s pos).2 ++ cutL (s.data.toList.drop (pos + (Utf8.decode s pos).2)) (m - 1).toNat := by
  obtain ⟨k, hk⟩ : ∃ k, m.toNat = k + 1 := ⟨m.toNat - 1, by omega⟩
  have : (m - 1).toNat = k := by omega
  rw [hk, this, cutL_succ _ (drop_ne s pos h), Lib.decodeL_drop, List.drop_drop]

theorem ret_cut {t : ByteArray} {l : List UInt8} (h : t.data.toList = l) : Ending.returned (Value.string t) = .returned (.string ⟨l.toArray⟩) := by subst h; simp
theorem headList (s : ByteArray) (pos : Nat) : (s.extract 0 pos).data.toList = s.data.toList.take pos := by
  rw [Lib.extract_data]; simp

def CutRel (s : ByteArray) (n : Int) (pos : Nat) (m : Int) : Prop :=
  pos ≤ s.size ∧ m ≤ n ∧ (m = n ∨ 0 ≤ m) ∧ s.data.toList.take pos ++ cutL (s.data.toList.drop pos) m.toNat = cutL s.data.toList n.toNat

set_option maxHeartbeats 1000000 in
theorem cut_any (s : ByteArray) (n : Int) (w : World) (hs : s.size < 9223372036854775807) (hn0 : -9223372036854775808 ≤ n) (hn : n ≤ 9223372036854775807) :
    Calls Tryz.prog 57 #[.string s, .int .i64 n] w fun e w' => e = .returned (.string ⟨(cutL s.data.toList n.toNat).toArray⟩) ∧ Below w.heap.size w w' := by
  go_enter Tryz.func57, Tryz.ntmps57
  go_wp2
  go_loopw [1] (fun n' w' => ∃ (pos : Nat) (m : Int), CutRel s n pos m ∧ w' = w.iter s pos ∧ n' = .int .i64 m) (fun _ w' => s.size - w'.iterPos w.heap.size)
  case atStart => exact ⟨0, n, ⟨by omega, Int.le_refl _, .inl rfl, by simp⟩, rfl, rfl⟩
  case round =>
    obtain ⟨pos, m, ⟨hps, hmn, hm0, hcut⟩, rfl, rfl⟩ := hrel
    have HC := Lib.hid hcut
    have hmlo : -9223372036854775808 ≤ m := by omega
    clear hcut
    by_cases hp : pos < s.size
    · have hnx : ∀ ty, (Instr.next (.pointer (some ⟨w.heap.size, 0, none⟩)) true ty).run Tryz.prog (w.iter s pos) = _ := fun ty => run_next_any w s pos ty hp
      obtain ⟨hw1, hw2⟩ := width_in s pos hp
      by_cases hm1 : m < 1
      · clear hm0
        go_wp2
        go_ret
        have := HC.out
        rw [show m.toNat = 0 by omega, cutL_zero, List.append_nil] at this
        exact ⟨ret_cut (by rw [headList, this]), iter_below w s _⟩
      · have hst := Lib.hid (cut_at s pos m hp (by omega))
        clear hm0
        go_wp2
        go_roundw
        case rel =>
          refine ⟨pos + (Utf8.decode s pos).2, m - 1, ⟨hw2, by omega, .inr (by omega), ?_⟩, rfl, by go_num⟩
          have e : s.data.toList.take (pos + (Utf8.decode s pos).2) = s.data.toList.take pos ++ (s.data.toList.drop pos).take (Utf8.decode s pos).2 := by rw [List.take_add]
          rw [e, List.append_assoc, ← hst.out]; exact HC.out
        case measure => simp; omega
    · have hnx : ∀ ty, (Instr.next (.pointer (some ⟨w.heap.size, 0, none⟩)) true ty).run Tryz.prog (w.iter s pos) = _ := fun ty => run_next_end w s pos ty hp
      clear hm0
      go_wp2
      go_ret
      have := HC.out
      rw [drop_nil s pos hp, cutL_nil, List.append_nil, List.take_of_length_le (by rw [← Lib.size_eq]; omega)] at this
      exact ⟨ret_cut this, iter_below w s _⟩
end Go.Proofs.YtepppianhafdjaaGreatDoor
