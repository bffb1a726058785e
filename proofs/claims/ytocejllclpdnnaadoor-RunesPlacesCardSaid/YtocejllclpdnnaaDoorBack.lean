/- The contract of runes.Back: for every string of at most 2^47 bytes it returns the pieces' bytes, the last piece first; of what was in memory nothing turns. -/
import Derived.Test.YtocejllclpdnnaaDoorFold
import Derived.Test.YtocejllclpdnnaaDoorMem
namespace Go.Proofs.YtocejllclpdnnaaDoor
open Go.RowKit

theorem backL_nil : backL [] = [] := rfl
theorem backL_step (l : List UInt8) (hne : l ≠ []) : backL l = backL (l.drop (Lib.decodeL l).2) ++ l.take (Lib.decodeL l).2 := by
  unfold backL; rw [pcs_step l hne, List.reverse_cons, flat_append, flat_cons, flat_nil, List.append_nil]
theorem backL_at (s : ByteArray) (pos : Nat) (h : pos < s.size) :
    backL (s.data.toList.drop pos) = backL (s.data.toList.drop (pos + (Utf8.decode s pos).2)) ++ (s.data.toList.drop pos).take (Utf8.decode s pos).2 := by
  rw [backL_step _ (drop_ne s pos h), Lib.decodeL_drop, List.drop_drop]

theorem splice_back (zs : List Value) (acc : List UInt8) (t : ByteArray) (k : Nat) (hk : k = t.size) (h : k ≤ zs.length) :
    splice (zs ++ Lib.byteCells acc) (zs.length - k) (Lib.strCells t) = zs.take (zs.length - k) ++ Lib.byteCells (t.data.toList ++ acc) := by
  unfold splice
  rw [Lib.byteCells_append, ← strCells_bytes, strCells_len, ← hk, Nat.sub_add_cancel h, List.take_append_of_le_length (by omega), List.drop_left]

def BackRel (s : ByteArray) (w wr : World) (G K pos : Nat) (zs : List Value) (acc : List UInt8) : Prop :=
  zs.length + pos = s.size ∧ acc.length = pos ∧ wr.heap[G]? = some (.cells (zs ++ Lib.byteCells acc).toArray 5 (0, 0)) ∧ wr.heap[K]? = some (.stringIter s pos) ∧ Below w.heap.size w wr ∧ backL (s.data.toList.drop pos) ++ acc = backL s.data.toList

set_option maxHeartbeats 4000000 in
set_option maxRecDepth 1000000 in
theorem back_any (s : ByteArray) (w : World) (hs : s.size ≤ 140737488355328) (hT : Tabs w) :
    Calls Tryd.prog 25 #[.string s] w fun e w' => e = .returned (.string ⟨(backL s.data.toList).toArray⟩) ∧ Below w.heap.size w w' := by
  obtain ⟨i0, hi, hz0, hz1, hz2⟩ := info_parts (show (Tryd.prog.info? 5).map (fun i => (i.zero, i.size, i.bytes)) = some (some (.int .u8 0), 1, 1) by kernel_rfl)
  have hmk := run_make (P := Tryd.prog) w 37 5 i0 (.int .u8 0) Tryd.underlying37 hi hz0 .i64 .i64 s.size s.size (by omega) (by omega) (by rw [hz2]; omega) (by omega)
  rw [hz1, Nat.mul_one, Int.toNat_natCast] at hmk
  obtain ⟨Z, hZ⟩ : ∃ Z, madeCells (Value.int .u8 0).cells s.size = Z := ⟨_, rfl⟩
  have hZn : Z.size = s.size := by rw [← hZ]; exact size_madeCells _ _
  rw [hZ] at hmk
  have h0 : BackRel s w ((w.alloc (.cells Z 5)).iter s 0) w.heap.size (w.heap.size + 1) 0 Z.toList [] := by
    refine ⟨by simpa using hZn, rfl, ?_, ?_, ((Below.refl _ w).alloc (Nat.le_refl _) _).alloc (by rw [alloc_size]; omega) _, by simp⟩
    · have e1 := Below.heap_alloc (w.alloc (.cells Z 5)) (.stringIter s 0) w.heap.size (by rw [alloc_size]; omega)
      have e2 := alloc_at w (.cells Z 5)
      simpa [World.iter, Lib.byteCells] using e1.trans e2
    · have := World.iter_heap (w.alloc (.cells Z 5)) s 0
      rwa [alloc_size] at this
  have H0 := Lib.hid h0
  clear hZ hZn h0 hi hz0 hz1 hz2
  go_enter Tryd.func25, Tryd.ntmps25
  go_wp2
  go_loopw [4] (fun e wr => ∃ pos zs acc, BackRel s w wr w.heap.size (w.heap.size + 1) pos zs acc ∧ e = .int .i64 (zs.length : Int)) (fun _ wr => s.size - wr.iterPos (w.heap.size + 1))
  case atStart => exact ⟨0, Z.toList, [], H0.out, by have := H0.out.1; rw [← this]; simp⟩
  case round =>
    obtain ⟨pos, zs, acc, ⟨hzl, hal, hrow, hit, hbw, hacc⟩, rfl⟩ := hrel
    have hsz : w.heap.size + 1 < wr.heap.size := (Array.getElem?_eq_some_iff.1 hit).1
    have hip : wr.iterPos (w.heap.size + 1) = pos := by simp only [World.iterPos, hit]
    have HIP := Lib.hid hip
    have HACC := Lib.hid hacc
    have hal' : acc.length ≤ pos ∧ pos ≤ acc.length := by omega
    have hzl' : zs.length + pos ≤ s.size ∧ s.size ≤ zs.length + pos := by omega
    by_cases hp : pos < s.size
    · have hnx : ∀ ty, (Instr.next (.pointer (some ⟨w.heap.size + 1, 0, none⟩)) true ty).run Tryd.prog wr = _ := fun ty => Lib.run_next_any_at wr (w.heap.size + 1) s pos ty hit hp
      obtain ⟨hw1, hw2⟩ := width_in s pos hp
      have hit2 := Lib.iterAt_heap wr (w.heap.size + 1) s pos (pos + (Utf8.decode s pos).2) hit
      have hrow2 := (Lib.iterAt_other wr (w.heap.size + 1) w.heap.size s (pos + (Utf8.decode s pos).2) (by omega)).trans hrow
      have hbw2 := Lib.below_iterAt hbw (k := w.heap.size + 1) (by omega) s (pos + (Utf8.decode s pos).2)
      have hsz2 : w.heap.size + 1 < (wr.iterAt (w.heap.size + 1) s (pos + (Utf8.decode s pos).2)).heap.size := by rw [Lib.iterAt_size]; omega
      have hTr2 : Tabs (wr.iterAt (w.heap.size + 1) s (pos + (Utf8.decode s pos).2)) := hT.later hbw2
      have hst := Lib.hid (backL_at s pos hp)
      have hex : (s.extract pos (pos + (Utf8.decode s pos).2)).size = (Utf8.decode s pos).2 := by rw [ByteArray.size_extract]; omega
      have HEX := Lib.hid hex
      have hex' : (s.extract pos (pos + (Utf8.decode s pos).2)).size ≤ (Utf8.decode s pos).2 ∧ (Utf8.decode s pos).2 ≤ (s.extract pos (pos + (Utf8.decode s pos).2)).size := by omega
      clear hex hip hacc hrow hit hbw hal hzl
      go_wp2_with fail
      refine (width_at s pos hp _ hTr2).mono ?_
      rintro e w1 ⟨rfl, hb1⟩
      have hit3 := (hb1.block (w.heap.size + 1) hsz2).trans hit2
      have hrow3 := (hb1.block w.heap.size (by omega)).trans hrow2
      have hbw3 := hbw2.trans (hb1.mono (by omega))
      clear hit2 hrow2 hbw2 hTr2 hb1 hnx
      have hrow3' := Lib.hid hrow3
      have hrow4 := Lib.hid (setRow_heap w1 w.heap.size _ (splice (zs ++ Lib.byteCells acc) (zs.length - (Utf8.decode s pos).2) (Lib.strCells (s.extract pos (pos + (Utf8.decode s pos).2)))).toArray _ _ hrow3)
      have hit4 := Lib.hid ((setRow_other w1 w.heap.size (w.heap.size + 1) (splice (zs ++ Lib.byteCells acc) (zs.length - (Utf8.decode s pos).2) (Lib.strCells (s.extract pos (pos + (Utf8.decode s pos).2)))).toArray (by omega)).trans hit3)
      have hbw4 := Lib.hid (below_setRow hbw3 (Nat.le_refl _) (splice (zs ++ Lib.byteCells acc) (zs.length - (Utf8.decode s pos).2) (Lib.strCells (s.extract pos (pos + (Utf8.decode s pos).2)))).toArray)
      clear hit3 hrow3 hbw3
      go_wp2_with (with_reducible refine wpList_copy_str rfl (.tmp 32) (.tmp 33) _ _ rfl 5 Tryd.underlying37 Tryd.sizeOf5 w.heap.size (zs.length - (Utf8.decode s pos).2) _ _ rfl (s.extract pos (pos + (Utf8.decode s pos).2)) rfl ?c1 (zs ++ Lib.byteCells acc) _ hrow3'.out ?c2 ?_)
      case c1 => omega
      case c2 => rw [List.length_append, Lib.byteCells_length]; omega
      refine ⟨?_, ?_⟩
      · refine ⟨pos + (Utf8.decode s pos).2, zs.take (zs.length - (Utf8.decode s pos).2), (s.extract pos (pos + (Utf8.decode s pos).2)).data.toList ++ acc, ⟨?_, ?_, ?_, hit4.out, hbw4.out, ?_⟩, ?_⟩
        · rw [List.length_take]; omega
        · rw [List.length_append, ← Lib.size_eq]; omega
        · rw [← splice_back zs acc _ _ HEX.out.symm (by omega)]; exact hrow4.out
        · have e : (s.extract pos (pos + (Utf8.decode s pos).2)).data.toList = (s.data.toList.drop pos).take (Utf8.decode s pos).2 := by
            rw [Lib.extract_data, Nat.add_sub_cancel_left]
          rw [e, ← List.append_assoc, ← hst.out]; exact HACC.out
        · rw [List.length_take, Nat.min_eq_left (by omega)]; congr 1; omega
      · rw [HIP.out]
        simp only [World.iterPos, hit4.out]
        omega
    · have hnx : ∀ ty, (Instr.next (.pointer (some ⟨w.heap.size + 1, 0, none⟩)) true ty).run Tryd.prog wr = _ := fun ty => Lib.run_next_end_at wr (w.heap.size + 1) s pos ty hit hp
      have hz0 : zs = [] := List.eq_nil_of_length_eq_zero (by omega)
      subst hz0
      have hcv := run_string_of (P := Tryd.prog) wr 37 9 5 w.heap.size s.size acc s.size (by simp at hzl; omega) Tryd.underlying37 Tryd.underlying5 Tryd.underlying9 (by
        intro j v hv
        rw [World.cell?, hrow]
        simpa using hv)
      clear hacc hrow hal hzl hip
      go_wp2
      go_ret
      have := HACC.out
      rw [drop_nil s pos hp, backL_nil, List.nil_append] at this
      subst this
      exact ⟨rfl, hbw⟩
end Go.Proofs.YtocejllclpdnnaaDoor
