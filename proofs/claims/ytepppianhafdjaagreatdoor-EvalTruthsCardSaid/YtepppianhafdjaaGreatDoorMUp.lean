/- The contracts of runes.Upper, runes.Fold. -/
import Derived.Test.YtepppianhafdjaaGreatDoorMUpM
import Derived.Test.YtepppianhafdjaaGreatDoorGB
import Derived.Shelf.Unicode.DecodeAny
import Derived.BigCall
import Derived.Lib.OthersKept
namespace Go.Proofs.YtepppianhafdjaaGreatDoor
open Go.RowKit

theorem decodeGo_tail (s : ByteArray) (pos : Nat) (h : pos < s.size) : Lib.decodeGo (s.extract pos s.size) = Utf8.decode s pos := by
  have hsz : (s.extract pos s.size).size ≠ 0 := by rw [Lib.size_eq, tailList, List.length_drop, ← Lib.size_eq]; omega
  unfold Lib.decodeGo
  rw [if_neg hsz, ← Lib.decodeL_drop s pos, ← tailList]
  rfl

theorem decodeRune_any (s : ByteArray) (w : World) (hT : Tabs w) :
    Calls Tryz.prog 121 #[.string s] w fun e w' => e = .returned (.tuple #[.int .i32 (Lib.decodeGo s).1, .int .i64 (Lib.decodeGo s).2]) ∧ Below w.heap.size w w' :=
  Any.utf8_DecodeRuneInString Tryz.more197 s w hT

set_option maxHeartbeats 400000 in
theorem width_any (s : ByteArray) (w : World) (hT : Tabs w) :
    Calls Tryz.prog 95 #[.string s] w fun e w' => e = .returned (.int .i64 (Lib.decodeGo s).2) ∧ Below w.heap.size w w' := by
  have c := decodeRune_any s w hT
  generalize (Lib.decodeGo s).1 = R at c
  generalize (Lib.decodeGo s).2 = K at c ⊢
  go_enter Tryz.func95, Tryz.ntmps95
  go_wp2_with (go_at_call 121; refine c.mono ?_; rintro e w' ⟨rfl, hb⟩)
  go_ret
  exact ⟨rfl, hb⟩

/-- runes.width of what lies behind a place: the width of the piece that begins there. -/
theorem width_at (s : ByteArray) (pos : Nat) (h : pos < s.size) (w : World) (hT : Tabs w) :
    Calls Tryz.prog 95 #[.string (s.extract pos s.size)] w fun e w' => e = .returned (.int .i64 (Utf8.decode s pos).2) ∧ Below w.heap.size w w' := by
  have := width_any (s.extract pos s.size) w hT
  rw [decodeGo_tail s pos h] at this
  exact this
theorem bGrow (B b n : Nat) (w : World) (hB : B ≤ b) (hbk : w.heap[b]? = some (.cells #[.pointer none, .slice none 0 0] 108 (0, 0))) (hBw : B ≤ w.heap.size) (hn : n ≤ 281474976710656) :
    Calls Tryz.prog 93 #[.pointer (some ⟨b, 0, none⟩), .int .i64 n] w fun e w' => e = .returned (.tuple #[]) ∧ (Lib.IsBuilderF 108 5 B b [] w' ∧ Below B w w') :=
  (Any.Builder_Grow_fresh Tryz.more165 Tryz.extraB B b n w hB hbk hBw hn).mono fun _ _ ⟨he, hb, hw⟩ => ⟨he, Lib.IsBuilderF.of (.inr hb), hw⟩
theorem upper_any (r : Int) (w : World) : Calls Tryz.prog 97 #[.int .i32 r] w fun e w' => e = .returned (.int .i32 (upperZ r)) ∧ w = w' := by
  go_enter Tryz.func97, Tryz.ntmps97
  go_wp2
  all_goals
    go_ret
    refine ⟨ret_int ?_, rfl⟩
    try simp only [beq_iff_eq, beq_eq_false_iff_ne, ne_eq] at *
    first
    | exact (upper_low (by unfold LowP; omega)).symm
    | exact (upper_same (by unfold LowP; omega) (by omega)).symm
    | (subst r; exact upper_962.symm)
theorem foldL_at (s : ByteArray) (pos : Nat) (h : pos < s.size) :
    foldL (s.data.toList.drop pos) = foldPc ((Utf8.decode s pos).1, (s.data.toList.drop pos).take (Utf8.decode s pos).2) ++ foldL (s.data.toList.drop (pos + (Utf8.decode s pos).2)) := by
  rw [foldL_step _ (drop_ne s pos h), Lib.decodeL_drop, List.drop_drop]
theorem upperZ_range (r : Int) (h0 : 0 ≤ r) (h1 : r ≤ 1114111) : 0 ≤ upperZ r ∧ upperZ r ≤ 1114111 := by
  unfold upperZ
  split
  · rename_i h; unfold LowP at h; omega
  · split <;> omega
def FoldRel (s : ByteArray) (B K : Nat) (w wr : World) (pos : Nat) (acc : List UInt8) : Prop :=
  Lib.IsBuilderF 108 5 B B (Lib.byteCells acc) wr ∧ wr.heap[K]? = some (.stringIter s pos) ∧ Below B w wr ∧ acc ++ foldL (s.data.toList.drop pos) = foldL s.data.toList ∧ acc.length ≤ 4 * pos ∧ pos ≤ s.size
theorem fold_bad (s : ByteArray) (pos : Nat) (h : (Utf8.decode s pos).1 = 65533) (acc : List UInt8) :
    Lib.byteCells acc ++ Lib.strCells (s.extract pos (pos + (Utf8.decode s pos).2)) = Lib.byteCells (acc ++ foldPc ((Utf8.decode s pos).1, (s.data.toList.drop pos).take (Utf8.decode s pos).2)) := by
  rw [strCells_bytes, Lib.byteCells_append, Lib.extract_data]
  unfold foldPc; rw [if_pos h, Nat.add_sub_cancel_left]
theorem fold_good (s : ByteArray) (pos : Nat) (h : ¬ (Utf8.decode s pos).1 = 65533) (acc : List UInt8) :
    Lib.byteCells acc ++ Lib.runeCells (upperZ (Utf8.decode s pos).1) = Lib.byteCells (acc ++ foldPc ((Utf8.decode s pos).1, (s.data.toList.drop pos).take (Utf8.decode s pos).2)) := by
  rw [Lib.byteCells_append]
  unfold foldPc; rw [if_neg h, Lib.byteCells_encodeRune]
theorem foldPc_len (s : ByteArray) (pos : Nat) : (foldPc ((Utf8.decode s pos).1, (s.data.toList.drop pos).take (Utf8.decode s pos).2)).length ≤ 4 := by
  unfold foldPc
  split
  · have := width_four s pos; simp only [List.length_take]; omega
  · have := Lib.runeCells_le (upperZ (Utf8.decode s pos).1); rw [Lib.runeCells_length] at this; exact this.2
theorem fold_any (s : ByteArray) (w : World) (hs : s.size ≤ 17592186044416) (hT : Tabs w) :
    Calls Tryz.prog 59 #[.string s] w fun e w' => e = .returned (.string ⟨(foldL s.data.toList).toArray⟩) ∧ Below w.heap.size w w' := by
  go_enter Tryz.func59, Tryz.ntmps59
  go_wp2_with (go_at_call 93; refine (bGrow w.heap.size w.heap.size s.size _ (Nat.le_refl _) ?hb ?hl (by omega)).mono ?_)
  case hb => exact alloc_at w _
  case hl => rw [alloc_size]; omega
  rintro e wG ⟨rfl, hG, hbG0⟩
  have hbG : Below w.heap.size w wG := ((Below.refl _ w).alloc (Nat.le_refl _) _).trans hbG0
  have hK0 : w.heap.size < wG.heap.size := by
    obtain ⟨_, v, hv, _⟩ | ⟨_, v, hv, _⟩ := hG
    all_goals exact (Array.getElem?_eq_some_iff.1 hv).1
  clear hbG0
  have h0 : FoldRel s w.heap.size wG.heap.size w (wG.iter s 0) 0 [] :=
    ⟨hG.alloc _, World.iter_heap wG s 0, hbG.alloc (by omega) _, rfl, by simp, by omega⟩
  clear hG hbG
  go_wp2
  go_loopw [] (fun wr => ∃ pos acc, FoldRel s w.heap.size wG.heap.size w wr pos acc) (fun wr => s.size - wr.iterPos wG.heap.size)
  case atStart => exact ⟨0, [], h0⟩
  case round =>
    obtain ⟨pos, acc, hI, hit, hbw, hacc, hal, hps⟩ := hrel
    have hsz : wG.heap.size < wr.heap.size := (Array.getElem?_eq_some_iff.1 hit).1
    have hTr : Tabs wr := hT.later hbw
    by_cases hp : pos < s.size
    · have hnx : ∀ ty, (Instr.next (.pointer (some ⟨wG.heap.size, 0, none⟩)) true ty).run Tryz.prog wr = _ := fun ty => Lib.run_next_any_at wr wG.heap.size s pos ty hit hp
      obtain ⟨hw1, hw2⟩ := width_in s pos hp
      have hw4 := width_four s pos
      have hr := Lib.rune_le s pos
      have hI2 := hI.iterAt hit (pos + (Utf8.decode s pos).2)
      have hit2 := Lib.iterAt_heap wr wG.heap.size s pos (pos + (Utf8.decode s pos).2) hit
      have hbw2 := Lib.below_iterAt hbw (k := wG.heap.size) (by omega) s (pos + (Utf8.decode s pos).2)
      have hsz2 : w.heap.size ≤ (wr.iterAt wG.heap.size s (pos + (Utf8.decode s pos).2)).heap.size := by rw [Lib.iterAt_size]; omega
      have hTr2 : Tabs (wr.iterAt wG.heap.size s (pos + (Utf8.decode s pos).2)) := hT.later hbw2
      have hst := Lib.hid (foldL_at s pos hp)
      have hlen := Lib.hid (foldPc_len s pos)
      have hacc' := Lib.hid hacc
      have HIT := Lib.hid hit
      clear hacc hI hit hbw hTr
      by_cases hb : (Utf8.decode s pos).1 = 65533
      · have hbb : (((Utf8.decode s pos).1 : Int) == 65533) = true := by rw [hb]; rfl
        have hfp := Lib.hid (fold_bad s pos hb acc)
        have HB := Lib.hid hb
        clear hb
        go_wp2_with fail
        refine (width_at s pos hp _ hTr2).mono ?_
        rintro e w1 ⟨rfl, hb1⟩
        have hI3 := builder_later hI2 hb1
        have hit3 := (hb1.block wG.heap.size (Array.getElem?_eq_some_iff.1 hit2).1).trans hit2
        have hbw3 := hbw2.trans (hb1.mono hsz2)
        have hsz3 : w.heap.size ≤ w1.heap.size := Nat.le_trans hsz2 hb1.size
        have hex : (s.extract pos (pos + (Utf8.decode s pos).2)).size ≤ 4 := by rw [ByteArray.size_extract]; omega
        clear hI2 hit2 hbw2 hb1 hTr2
        go_wp2_with fail
        refine (bWriteString w.heap.size w.heap.size _ (s.extract pos (pos + (Utf8.decode s pos).2)) _ hI3 (by rw [Lib.byteCells_length]; omega) hsz3).mono ?_
        rintro e w2 ⟨rfl, h1, b1, k1⟩
        rw [hfp.out] at h1
        have hit4 := k1.iter hit3 (by omega)
        go_wp2
        go_roundw
        case rel =>
          refine ⟨pos + (Utf8.decode s pos).2, _, Or.inr h1, hit4, hbw3.trans b1, ?_, ?_, hw2⟩
          · rw [List.append_assoc, ← hst.out]; exact hacc'.out
          · have := hlen.out; rw [List.length_append]; omega
        case measure =>
          simp only [World.iterPos, hit4, HIT.out]
          omega
      · have hbb : (((Utf8.decode s pos).1 : Int) == 65533) = false := beq_eq_false_iff_ne.2 (by omega)
        have hfp := Lib.hid (fold_good s pos hb acc)
        have hu := upperZ_range ((Utf8.decode s pos).1 : Int) (by omega) (by omega)
        clear hb hTr2
        go_wp2_with fail
        refine (upper_any _ _).mono ?_
        rintro e w1 ⟨rfl, rfl⟩
        go_wp2_with fail
        refine (bWriteRune w.heap.size w.heap.size _ _ (by omega) (by omega) _ hI2 (by rw [Lib.byteCells_length]; omega) hsz2).mono ?_
        rintro e w2 ⟨rfl, h1, b1, k1⟩
        rw [hfp.out] at h1
        have hit4 := k1.iter hit2 (by omega)
        go_wp2
        go_roundw
        case rel =>
          refine ⟨pos + (Utf8.decode s pos).2, _, Or.inr h1, hit4, hbw2.trans b1, ?_, ?_, hw2⟩
          · rw [List.append_assoc, ← hst.out]; exact hacc'.out
          · have := hlen.out; rw [List.length_append]; omega
        case measure =>
          simp only [World.iterPos, hit4, HIT.out]
          omega
    · have hnx : ∀ ty, (Instr.next (.pointer (some ⟨wG.heap.size, 0, none⟩)) true ty).run Tryz.prog wr = _ := fun ty => Lib.run_next_end_at wr wG.heap.size s pos ty hit hp
      have hacc' := Lib.hid hacc
      clear hacc
      go_wp2_with fail
      refine (bString w.heap.size w.heap.size acc _ hI (by omega)).mono ?_
      rintro e w1 ⟨rfl, _, b1, _⟩
      go_wp2
      go_ret
      have := hacc'.out
      rw [drop_nil s pos hp, foldL_nil, List.append_nil] at this
      subst this
      exact ⟨rfl, hbw.trans b1⟩
end Go.Proofs.YtepppianhafdjaaGreatDoor
