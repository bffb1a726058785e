/- The contract of value.quoted: for every string of at most 2^40 bytes, the text as it is shown. -/
import Derived.Test.YtfcigknalnmhcaaDoorVQuoted
namespace Go.Proofs.YtfcigknalnmhcaaDoor
open Go.RowKit

theorem quoteM_at (s : ByteArray) (pos : Nat) (h : pos < s.size) : quoteM (s.data.toList.drop pos) = quoteR (Utf8.decode s pos).1 ++ quoteM (s.data.toList.drop (pos + (Utf8.decode s pos).2)) := by
  rw [quoteM_step _ (drop_ne s pos h), Lib.decodeL_drop, List.drop_drop]
theorem quoteR_len (r : Nat) : (quoteR r).length ≤ 6 := by
  unfold quoteR
  split
  · simp
  · split
    · simp [hexL_len]
    · have := Lib.runeCells_le (r : Int); rw [Lib.runeCells_length] at this; omega

def QRel (s : ByteArray) (B K : Nat) (w wr : World) (pos : Nat) (acc : List UInt8) : Prop :=
  Lib.IsBuilderF 96 5 B B (Lib.byteCells acc) wr ∧ wr.heap[K]? = some (.stringIter s pos) ∧ Below B w wr ∧ acc ++ (quoteM (s.data.toList.drop pos) ++ [34]) = quoteL s.data.toList ∧ acc.length ≤ 1 + 6 * pos ∧ pos ≤ s.size
theorem byteCells_snoc (l : List UInt8) (c : UInt8) : Lib.byteCells l ++ [.int .u8 (c.toNat : Int)] = Lib.byteCells (l ++ [c]) := by simp [Lib.byteCells]
theorem quote_esc (r : Nat) (h : r = 34 ∨ r = 92) : quoteR r = [92] ++ Lib.encodeRune (r : Int) := by
  unfold quoteR; rw [if_pos h]
  rw [encode_byte r (by omega)]; rfl
theorem quote_ctrl (r : Nat) (h1 : ¬ (r = 34 ∨ r = 92)) (h : Ctrl r) : quoteR r = 92 :: 117 :: hexL r := by unfold quoteR; rw [if_neg h1, if_pos h]
theorem quote_else (r : Nat) (h1 : ¬ (r = 34 ∨ r = 92)) (h : ¬ Ctrl r) : quoteR r = Lib.encodeRune (r : Int) := by unfold quoteR; rw [if_neg h1, if_neg h]

theorem QRel.next {s : ByteArray} {B K : Nat} {w w2 : World} {pos : Nat} {acc : List UInt8} (hp : pos < s.size) (hacc : acc ++ (quoteM (s.data.toList.drop pos) ++ [34]) = quoteL s.data.toList) (hal : acc.length ≤ 1 + 6 * pos)
    (h1 : Lib.IsBuilderF 96 5 B B (Lib.byteCells (acc ++ quoteR (Utf8.decode s pos).1)) w2) (hit : w2.heap[K]? = some (.stringIter s (pos + (Utf8.decode s pos).2))) (hb : Below B w w2) :
    ∃ pos acc, QRel s B K w w2 pos acc := by
  obtain ⟨hw1, hw2⟩ := width_in s pos hp
  refine ⟨pos + (Utf8.decode s pos).2, acc ++ quoteR (Utf8.decode s pos).1, h1, hit, hb, ?_, ?_, hw2⟩
  · rw [quoteM_at s pos hp, List.append_assoc] at hacc
    rw [List.append_assoc]; exact hacc
  · have := quoteR_len (Utf8.decode s pos).1
    rw [List.length_append]; omega

set_option maxHeartbeats 4000000 in
set_option maxRecDepth 1000000 in
theorem quoted_any (s : ByteArray) (w : World) (hs : s.size ≤ 1099511627776) :
    Calls Tryd.prog 56 #[.string s] w fun e w' => e = .returned (.string ⟨(quoteL s.data.toList).toArray⟩) ∧ Below w.heap.size w w' := by
  have hF := Lib.IsBuilderF.of (Lib.fresh_isBuilder 96 5 w)
  have c1 := bWriteByte w.heap.size w.heap.size [] 34 _ hF (by simp) (by simp)
  clear hF
  go_enter Tryd.func56, Tryd.ntmps56
  go_wp2_with fail
  refine c1.mono ?_
  rintro e wG ⟨rfl, hG, hbG0, -⟩
  have hbG : Below w.heap.size w wG := (below_alloc w _).trans hbG0
  have hK0 : w.heap.size < wG.heap.size := Nat.lt_of_lt_of_le (by simp) hbG0.size
  clear hbG0 c1
  have h0 : QRel s w.heap.size wG.heap.size w (wG.iter s 0) 0 [34] :=
    ⟨Lib.IsBuilderF.alloc (Or.inr hG) _, World.iter_heap wG s 0, hbG.alloc (by omega) _, rfl, by simp, by omega⟩
  clear hG hbG
  have H0 := Lib.hid h0
  clear h0
  go_wp2
  go_loopw [] (fun wr => ∃ pos acc, QRel s w.heap.size wG.heap.size w wr pos acc) (fun wr => s.size - wr.iterPos wG.heap.size)
  case atStart => exact ⟨0, [34], H0.out⟩
  case round =>
    obtain ⟨pos, acc, hI, hit, hbw, hacc, hal, hps⟩ := hrel
    have hsz : wG.heap.size < wr.heap.size := (Array.getElem?_eq_some_iff.1 hit).1
    clear H0
    by_cases hp : pos < s.size
    · have hnx : ∀ ty, (Instr.next (.pointer (some ⟨wG.heap.size, 0, none⟩)) true ty).run Tryd.prog wr = _ := fun ty => Lib.run_next_any_at wr wG.heap.size s pos ty hit hp
      obtain ⟨hw1, hw2⟩ := width_in s pos hp
      have hr := Lib.rune_le s pos
      have hI2 := hI.iterAt hit (pos + (Utf8.decode s pos).2)
      have hit2 := Lib.iterAt_heap wr wG.heap.size s pos (pos + (Utf8.decode s pos).2) hit
      have hbw2 := Lib.below_iterAt hbw (k := wG.heap.size) (by omega) s (pos + (Utf8.decode s pos).2)
      have hsz2 : w.heap.size ≤ (wr.iterAt wG.heap.size s (pos + (Utf8.decode s pos).2)).heap.size := by rw [Lib.iterAt_size]; omega
      have hacc' := Lib.hid hacc
      have HIT := Lib.hid hit
      clear hacc hI hit hbw
      by_cases hq : (Utf8.decode s pos).1 = 34 ∨ (Utf8.decode s pos).1 = 92
      · by_cases hq1 : (Utf8.decode s pos).1 = 34
        · have hqr := Lib.hid (quote_esc _ hq)
          have HQ := Lib.hid hq
          have t1 : (((Utf8.decode s pos).1 : Int) == 34) = true := by rw [hq1]; rfl
          clear hq hq1
          go_wp2_with fail
          refine (bWriteByte w.heap.size w.heap.size _ 92 _ hI2 (by rw [Lib.byteCells_length]; omega) hsz2).mono ?_
          rintro e w1 ⟨rfl, h1, b1, k1⟩
          have hit3 := k1.iter hit2 (by omega)
          have hbw3 := hbw2.trans b1
          rw [show (Value.int .u8 92) = Value.int .u8 (((92 : UInt8).toNat : Nat) : Int) from rfl, byteCells_snoc] at h1
          clear hI2 hit2 hbw2 b1 k1
          go_wp2_with fail
          refine (bWriteRune w.heap.size w.heap.size _ _ (by omega) (by omega) _ (Or.inr h1) (by rw [Lib.byteCells_length, List.length_append]; simp; omega) hbw3.size).mono ?_
          rintro e w2 ⟨rfl, h2, b2, k2⟩
          have hit4 := k2.iter hit3 (by omega)
          rw [← Lib.byteCells_encodeRune, ← Lib.byteCells_append, List.append_assoc, ← hqr.out] at h2
          clear h1 hit3 k2
          go_wp2
          go_roundw
          case rel => exact QRel.next hp hacc'.out hal (Or.inr h2) hit4 (hbw3.trans b2)
          case measure =>
            simp only [World.iterPos, hit4, HIT.out]
            omega
        · have hqr := Lib.hid (quote_esc _ hq)
          have HQ := Lib.hid hq
          have t1 : (((Utf8.decode s pos).1 : Int) == 34) = false := beq_eq_false_iff_ne.2 (by omega)
          have t2 : (((Utf8.decode s pos).1 : Int) == 92) = true := by rw [hq.resolve_left hq1]; rfl
          clear hq hq1
          go_wp2_with fail
          refine (bWriteByte w.heap.size w.heap.size _ 92 _ hI2 (by rw [Lib.byteCells_length]; omega) hsz2).mono ?_
          rintro e w1 ⟨rfl, h1, b1, k1⟩
          have hit3 := k1.iter hit2 (by omega)
          have hbw3 := hbw2.trans b1
          rw [show (Value.int .u8 92) = Value.int .u8 (((92 : UInt8).toNat : Nat) : Int) from rfl, byteCells_snoc] at h1
          clear hI2 hit2 hbw2 b1 k1
          go_wp2_with fail
          refine (bWriteRune w.heap.size w.heap.size _ _ (by omega) (by omega) _ (Or.inr h1) (by rw [Lib.byteCells_length, List.length_append]; simp; omega) hbw3.size).mono ?_
          rintro e w2 ⟨rfl, h2, b2, k2⟩
          have hit4 := k2.iter hit3 (by omega)
          rw [← Lib.byteCells_encodeRune, ← Lib.byteCells_append, List.append_assoc, ← hqr.out] at h2
          clear h1 hit3 k2
          go_wp2
          go_roundw
          case rel => exact QRel.next hp hacc'.out hal (Or.inr h2) hit4 (hbw3.trans b2)
          case measure =>
            simp only [World.iterPos, hit4, HIT.out]
            omega
      · have t1 : (((Utf8.decode s pos).1 : Int) == 34) = false := beq_eq_false_iff_ne.2 (by omega)
        have t2 : (((Utf8.decode s pos).1 : Int) == 92) = false := beq_eq_false_iff_ne.2 (by omega)
        by_cases hc : Ctrl (Utf8.decode s pos).1
        · have hqr := Lib.hid (quote_ctrl _ hq hc)
          have hlt : (Utf8.decode s pos).1 < 160 := by unfold Ctrl at hc; omega
          unfold Ctrl at hc
          clear hq
          by_cases h32 : (Utf8.decode s pos).1 < 32
          · have t3 : ((Utf8.decode s pos).1 : Int) < 32 := by omega
            clear hc
            go_wp2_with fail
            refine (byNumber_any _ _ hlt).mono ?_
            rintro e w1 ⟨rfl, b1⟩
            have hI3 := builder_later hI2 b1
            have hit3 := (b1.block wG.heap.size (Array.getElem?_eq_some_iff.1 hit2).1).trans hit2
            have hbw3 := hbw2.trans (b1.mono hsz2)
            have hex : (⟨(92 :: 117 :: hexL (Utf8.decode s pos).1).toArray⟩ : ByteArray).size = 6 := rfl
            clear hI2 hit2 hbw2 b1
            go_wp2_with fail
            refine (bWriteString w.heap.size w.heap.size _ ⟨(92 :: 117 :: hexL (Utf8.decode s pos).1).toArray⟩ _ hI3 (by rw [Lib.byteCells_length, hex]; omega) hbw3.size).mono ?_
            rintro e w2 ⟨rfl, h2, b2, k2⟩
            have hit4 := k2.iter hit3 (by omega)
            rw [strCells_bytes, ← Lib.byteCells_append, ← hqr.out] at h2
            clear hI3 hit3 k2 hex
            go_wp2
            go_roundw
            case rel => exact QRel.next hp hacc'.out hal (Or.inr h2) hit4 (hbw3.trans b2)
            case measure =>
              simp only [World.iterPos, hit4, HIT.out]
              omega
          · have t3 : ¬ ((Utf8.decode s pos).1 : Int) < 32 := by omega
            have t4 : 127 ≤ ((Utf8.decode s pos).1 : Int) := by omega
            have t5 : ((Utf8.decode s pos).1 : Int) ≤ 159 := by omega
            clear hc
            go_wp2_with fail
            refine (byNumber_any _ _ hlt).mono ?_
            rintro e w1 ⟨rfl, b1⟩
            have hI3 := builder_later hI2 b1
            have hit3 := (b1.block wG.heap.size (Array.getElem?_eq_some_iff.1 hit2).1).trans hit2
            have hbw3 := hbw2.trans (b1.mono hsz2)
            have hex : (⟨(92 :: 117 :: hexL (Utf8.decode s pos).1).toArray⟩ : ByteArray).size = 6 := rfl
            clear hI2 hit2 hbw2 b1
            go_wp2_with fail
            refine (bWriteString w.heap.size w.heap.size _ ⟨(92 :: 117 :: hexL (Utf8.decode s pos).1).toArray⟩ _ hI3 (by rw [Lib.byteCells_length, hex]; omega) hbw3.size).mono ?_
            rintro e w2 ⟨rfl, h2, b2, k2⟩
            have hit4 := k2.iter hit3 (by omega)
            rw [strCells_bytes, ← Lib.byteCells_append, ← hqr.out] at h2
            clear hI3 hit3 k2 hex
            go_wp2
            go_roundw
            case rel => exact QRel.next hp hacc'.out hal (Or.inr h2) hit4 (hbw3.trans b2)
            case measure =>
              simp only [World.iterPos, hit4, HIT.out]
              omega
        · have hqr := Lib.hid (quote_else _ hq hc)
          unfold Ctrl at hc
          have t3 : ¬ ((Utf8.decode s pos).1 : Int) < 32 := by omega
          clear hq
          by_cases h127 : (Utf8.decode s pos).1 < 127
          · have t4 : ¬ 127 ≤ ((Utf8.decode s pos).1 : Int) := by omega
            clear hc
            go_wp2_with fail
            refine (bWriteRune w.heap.size w.heap.size _ _ (by omega) (by omega) _ hI2 (by rw [Lib.byteCells_length]; omega) hsz2).mono ?_
            rintro e w2 ⟨rfl, h2, b2, k2⟩
            have hit4 := k2.iter hit2 (by omega)
            rw [← Lib.byteCells_encodeRune, ← Lib.byteCells_append, ← hqr.out] at h2
            clear hI2 hit2 k2
            go_wp2
            go_roundw
            case rel => exact QRel.next hp hacc'.out hal (Or.inr h2) hit4 (hbw2.trans b2)
            case measure =>
              simp only [World.iterPos, hit4, HIT.out]
              omega
          · have t4 : 127 ≤ ((Utf8.decode s pos).1 : Int) := by omega
            have t5 : ¬ ((Utf8.decode s pos).1 : Int) ≤ 159 := by omega
            clear hc
            go_wp2_with fail
            refine (bWriteRune w.heap.size w.heap.size _ _ (by omega) (by omega) _ hI2 (by rw [Lib.byteCells_length]; omega) hsz2).mono ?_
            rintro e w2 ⟨rfl, h2, b2, k2⟩
            have hit4 := k2.iter hit2 (by omega)
            rw [← Lib.byteCells_encodeRune, ← Lib.byteCells_append, ← hqr.out] at h2
            clear hI2 hit2 k2
            go_wp2
            go_roundw
            case rel => exact QRel.next hp hacc'.out hal (Or.inr h2) hit4 (hbw2.trans b2)
            case measure =>
              simp only [World.iterPos, hit4, HIT.out]
              omega
    · have hnx : ∀ ty, (Instr.next (.pointer (some ⟨wG.heap.size, 0, none⟩)) true ty).run Tryd.prog wr = _ := fun ty => Lib.run_next_end_at wr wG.heap.size s pos ty hit hp
      rw [drop_nil s pos hp, quoteM_nil, List.nil_append] at hacc
      have hacc' := Lib.hid hacc
      clear hacc
      go_wp2_with fail
      refine (bWriteByte w.heap.size w.heap.size _ 34 _ hI (by rw [Lib.byteCells_length]; omega) (by omega)).mono ?_
      rintro e w1 ⟨rfl, h1, b1, -⟩
      rw [show (Value.int .u8 34) = Value.int .u8 (((34 : UInt8).toNat : Nat) : Int) from rfl, byteCells_snoc, hacc'.out] at h1
      have hbw1 := hbw.trans b1
      clear b1 hbw
      go_wp2_with fail
      refine (bString w.heap.size w.heap.size _ _ (Or.inr h1) hbw1.size).mono ?_
      rintro e w2 ⟨rfl, -, b2, -⟩
      go_wp2
      go_ret
      exact ⟨rfl, hbw1.trans b2⟩
end Go.Proofs.YtfcigknalnmhcaaDoor
