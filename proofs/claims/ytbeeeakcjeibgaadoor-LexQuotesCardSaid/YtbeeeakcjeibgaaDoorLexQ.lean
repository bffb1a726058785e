/- The contract of lex.Quote: for every string of at most 2^40 bytes, the text as it is written in a formula. -/
import Derived.Test.YtbeeeakcjeibgaaDoorLexAwake
import Derived.IntWalk
import Derived.Laws.BitsAllLaws
namespace Go.Proofs.YtbeeeakcjeibgaaDoor
open Go.RowKit

theorem quoteM_at (s : ByteArray) (pos : Nat) (h : pos < s.size) : quoteM (s.data.toList.drop pos) = quoteR (Utf8.decode s pos).1 ++ quoteM (s.data.toList.drop (pos + (Utf8.decode s pos).2)) := by
  rw [quoteM_step _ (drop_ne s pos h), Lib.decodeL_drop, List.drop_drop]
theorem quoteR_len6 (r : Nat) : (quoteR r).length ≤ 6 := by
  unfold quoteR
  split
  · simp
  · split
    · simp [hexL]
    · have := Lib.runeCells_le (r : Int); rw [Lib.runeCells_length] at this; omega
def QRel (s : ByteArray) (B K : Nat) (w wr : World) (pos : Nat) (acc : List UInt8) : Prop :=
  Lib.IsBuilderF 54 5 B B (Lib.byteCells acc) wr ∧ wr.heap[K]? = some (.stringIter s pos) ∧ Below B w wr ∧ acc ++ (quoteM (s.data.toList.drop pos) ++ [34]) = quoteL s.data.toList ∧ acc.length ≤ 1 + 6 * pos ∧ pos ≤ s.size
theorem byteCells_snoc (l : List UInt8) (c : UInt8) : Lib.byteCells l ++ [.int .u8 (c.toNat : Int)] = Lib.byteCells (l ++ [c]) := by simp [Lib.byteCells]
theorem QRel.next {s : ByteArray} {B K : Nat} {w w2 : World} {pos : Nat} {acc N : List UInt8} (hp : pos < s.size) (hacc : acc ++ (quoteM (s.data.toList.drop pos) ++ [34]) = quoteL s.data.toList) (hal : acc.length ≤ 1 + 6 * pos) (hN : quoteR (Utf8.decode s pos).1 = N)
    (h1 : Lib.IsBuilderF 54 5 B B (Lib.byteCells (acc ++ N)) w2) (hit : w2.heap[K]? = some (.stringIter s (pos + (Utf8.decode s pos).2))) (hb : Below B w w2) :
    ∃ pos acc, QRel s B K w w2 pos acc := by
  subst hN
  obtain ⟨hw1, hw2⟩ := width_in s pos hp
  refine ⟨pos + (Utf8.decode s pos).2, acc ++ quoteR (Utf8.decode s pos).1, h1, hit, hb, ?_, ?_, hw2⟩
  · rw [quoteM_at s pos hp, List.append_assoc] at hacc
    rw [List.append_assoc]; exact hacc
  · have := quoteR_len6 (Utf8.decode s pos).1
    rw [List.length_append]; omega
theorem and_15 : ∀ r : Fin 160, bits .and .i32 ((r.val : Nat) : Int) 15 = ((r.val % 16 : Nat) : Int) := by decide +kernel
theorem dig_get : ∀ d : Fin 16, ((⟨#[48, 49, 50, 51, 52, 53, 54, 55, 56, 57, 97, 98, 99, 100, 101, 102]⟩ : ByteArray)[d.val]'(by exact d.isLt)).toNat = (hx d.val).toNat := by decide +kernel

set_option maxHeartbeats 4000000 in
set_option maxRecDepth 1000000 in
theorem quote_any (s : ByteArray) (w : World) (hs : s.size ≤ 1099511627776) :
    Calls Tryd.prog 17 #[.string s] w fun e w' => e = .returned (.string ⟨(quoteL s.data.toList).toArray⟩) ∧ Below w.heap.size w w' := by
  have hF := Lib.IsBuilderF.of (Lib.fresh_isBuilder 54 5 w)
  have c1 := bWriteByte w.heap.size w.heap.size [] 34 _ hF (by simp) (by simp)
  clear hF
  go_enter Tryd.func17, Tryd.ntmps17
  go_wp2_with fail
  refine c1.mono ?_
  rintro e wG ⟨rfl, hG, hbG0, -⟩
  have hbG : Below w.heap.size w wG := (below_alloc w _).trans hbG0
  have hK0 : w.heap.size < wG.heap.size := Nat.lt_of_lt_of_le (by simp) hbG0.size
  clear hbG0 c1
  have h0 : QRel s w.heap.size wG.heap.size w (wG.iter s 0) 0 [34] :=
    ⟨Lib.IsBuilderF.alloc (Or.inr hG) _, World.iter_heap wG s 0, hbG.alloc (by omega) _, rfl, by simp, by omega⟩
  clear hG hbG
  have H0 := Lib.hid h0
  clear h0
  go_wp2
  go_loopw [] (fun wr => ∃ pos acc, QRel s w.heap.size wG.heap.size w wr pos acc) (fun wr => s.size - wr.iterPos wG.heap.size)
  case atStart => exact ⟨0, [34], H0.out⟩
  case round =>
    obtain ⟨pos, acc, hI, hit, hbw, hacc, hal, hps⟩ := hrel
    have hsz : wG.heap.size < wr.heap.size := (Array.getElem?_eq_some_iff.1 hit).1
    clear H0
    by_cases hp : pos < s.size
    · have hnx : ∀ ty, (Instr.next (.pointer (some ⟨wG.heap.size, 0, none⟩)) true ty).run Tryd.prog wr = _ := fun ty => Lib.run_next_any_at wr wG.heap.size s pos ty hit hp
      obtain ⟨hw1, hw2⟩ := width_in s pos hp
      have hr := Lib.rune_le s pos
      have hI2 := hI.iterAt hit (pos + (Utf8.decode s pos).2)
      have hit2 := Lib.iterAt_heap wr wG.heap.size s pos (pos + (Utf8.decode s pos).2) hit
      have hbw2 := Lib.below_iterAt hbw (k := wG.heap.size) (by omega) s (pos + (Utf8.decode s pos).2)
      have hsz2 : w.heap.size ≤ (wr.iterAt wG.heap.size s (pos + (Utf8.decode s pos).2)).heap.size := by rw [Lib.iterAt_size]; omega
      have hacc' := Lib.hid hacc
      have HIT := Lib.hid hit
      clear hacc hI hit hbw
      obtain ⟨r, hrr⟩ : ∃ r, (Utf8.decode s pos).1 = r := ⟨_, rfl⟩
      rw [hrr] at hnx hr
      have HRR := Lib.hid hrr
      clear hrr
      have cC := fun w => control_any r w
      by_cases hc : Ctrl r
      · simp only [hc, decide_true] at cC
        have hlt : r < 160 := by unfold Ctrl at hc; omega
        have hq : quoteR r = [92, 117, 48, 48] ++ [hx (r / 16)] ++ [hx (r % 16)] := quoteR_ctrl (by unfold Ctrl at hc; omega) hc
        have HQ := Lib.hid hq
        obtain ⟨d1, hd1⟩ : ∃ d1, r / 16 = d1 := ⟨_, rfl⟩
        obtain ⟨d2, hd2⟩ : ∃ d2, r % 16 = d2 := ⟨_, rfl⟩
        have hs1 : (r : Int) / 16 = (d1 : Int) := by omega
        have hs2 : (r : Int) / 2 ^ 4 = (d1 : Int) := by rw [show (2 : Int) ^ 4 = 16 by decide]; exact hs1
        have hs3 : bits .and .i32 (r : Int) 15 = (d2 : Int) := by have := and_15 ⟨r, hlt⟩; rw [← hd2]; exact this
        have hd16 : d1 < 16 := by omega
        have he16 : d2 < 16 := by omega
        have g1 := dig_get ⟨d1, hd16⟩
        have g2 := dig_get ⟨d2, he16⟩
        dsimp only at g1 g2
        have hz1 : (d1 : Int) < 16 := by omega
        have hz2 : (d2 : Int) < 16 := by omega
        rw [hd1, hd2] at hq
        have HQ2 := Lib.hid hq
        clear hc hq hd1 hd2 HQ
        go_wp2_with fail
        refine (cC _).mono ?_
        rintro e w0 ⟨rfl, rfl⟩
        clear cC
        go_wp2_with fail
        refine (bWriteString w.heap.size w.heap.size _ ⟨#[92, 117, 48, 48]⟩ _ hI2 (by rw [Lib.byteCells_length, show (⟨#[92, 117, 48, 48]⟩ : ByteArray).size = 4 from rfl]; omega) hsz2).mono ?_
        rintro e w1 ⟨rfl, h1, b1, k1⟩
        have hit3 := k1.iter hit2 (by omega)
        have hbw3 := hbw2.trans b1
        rw [show Lib.byteCells acc ++ Lib.strCells ⟨#[92, 117, 48, 48]⟩ = Lib.byteCells (acc ++ [92, 117, 48, 48]) by rw [Lib.byteCells_append]; rfl] at h1
        clear hI2 hit2 hbw2 b1 k1
        go_wp2_with fail
        refine (bWriteByte w.heap.size w.heap.size _ _ _ (Or.inr h1) (by rw [Lib.byteCells_length, List.length_append]; simp; omega) hbw3.size).mono ?_
        rintro e w2 ⟨rfl, h2, b2, k2⟩
        have hit4 := k2.iter hit3 (by omega)
        have hbw4 := hbw3.trans b2
        rw [byteCells_snoc] at h2
        clear h1 hit3 hbw3 b2 k2
        go_wp2_with fail
        refine (bWriteByte w.heap.size w.heap.size _ _ _ (Or.inr h2) (by rw [Lib.byteCells_length, List.length_append, List.length_append]; simp; omega) hbw4.size).mono ?_
        rintro e w3 ⟨rfl, h3, b3, k3⟩
        have hit5 := k3.iter hit4 (by omega)
        have hbw5 := hbw4.trans b3
        rw [byteCells_snoc, List.append_assoc, List.append_assoc, ← List.append_assoc [92, 117, 48, 48]] at h3
        clear h2 hit4 hbw4 b3 k3
        go_wp2
        go_roundw
        case rel => exact QRel.next hp hacc'.out hal (by rw [HRR.out]; exact HQ2.out) (Or.inr h3) hit5 hbw5
        case measure =>
          simp only [World.iterPos, hit5, HIT.out]
          omega
      · simp only [hc, decide_false] at cC
        by_cases hq : r = 34 ∨ r = 92
        · have hqr : quoteR r = [92] ++ Lib.encodeRune (r : Int) := quoteR_sign hq
          have HQ := Lib.hid hqr
          have hwa : ((r : Int) == 34) = true ∨ (((r : Int) == 34) = false ∧ ((r : Int) == 92) = true) := by
            rcases hq with rfl | rfl
            · exact .inl rfl
            · exact .inr ⟨rfl, rfl⟩
          clear hqr hq hc
          rcases hwa with t1 | ⟨t1, t2⟩
          all_goals
            go_wp2_with fail
            refine (cC _).mono ?_
            rintro e w0 ⟨rfl, rfl⟩
            go_wp2_with fail
            refine (bWriteByte w.heap.size w.heap.size _ 92 _ hI2 (by rw [Lib.byteCells_length]; omega) hsz2).mono ?_
            rintro e w1 ⟨rfl, h1, b1, k1⟩
            have hit3 := k1.iter hit2 (by omega)
            have hbw3 := hbw2.trans b1
            rw [show (Value.int .u8 92) = Value.int .u8 (((92 : UInt8).toNat : Nat) : Int) from rfl, byteCells_snoc] at h1
            clear hI2 hit2 hbw2 b1 k1
            go_wp2_with fail
            refine (bWriteRune w.heap.size w.heap.size _ _ (by omega) (by omega) _ (Or.inr h1) (by rw [Lib.byteCells_length, List.length_append]; simp; omega) hbw3.size).mono ?_
            rintro e w2 ⟨rfl, h2, b2, k2⟩
            have hit4 := k2.iter hit3 (by omega)
            rw [← Lib.byteCells_encodeRune, ← Lib.byteCells_append, List.append_assoc] at h2
            clear h1 hit3 k2
            go_wp2
            go_roundw
            case rel => exact QRel.next hp hacc'.out hal (by rw [HRR.out]; exact HQ.out) (Or.inr h2) hit4 (hbw3.trans b2)
            case measure =>
              simp only [World.iterPos, hit4, HIT.out]
              omega
        · have hqr : quoteR r = Lib.encodeRune (r : Int) := quoteR_else hq hc
          have HQ := Lib.hid hqr
          have t1 : ((r : Int) == 34) = false := beq_eq_false_iff_ne.2 (by omega)
          have t2 : ((r : Int) == 92) = false := beq_eq_false_iff_ne.2 (by omega)
          clear hqr hq hc
          go_wp2_with fail
          refine (cC _).mono ?_
          rintro e w0 ⟨rfl, rfl⟩
          go_wp2_with fail
          refine (bWriteRune w.heap.size w.heap.size _ _ (by omega) (by omega) _ hI2 (by rw [Lib.byteCells_length]; omega) hsz2).mono ?_
          rintro e w2 ⟨rfl, h2, b2, k2⟩
          have hit4 := k2.iter hit2 (by omega)
          rw [← Lib.byteCells_encodeRune, ← Lib.byteCells_append] at h2
          clear hI2 hit2 k2
          go_wp2
          go_roundw
          case rel => exact QRel.next hp hacc'.out hal (by rw [HRR.out]; exact HQ.out) (Or.inr h2) hit4 (hbw2.trans b2)
          case measure =>
            simp only [World.iterPos, hit4, HIT.out]
            omega
    · have hnx : ∀ ty, (Instr.next (.pointer (some ⟨wG.heap.size, 0, none⟩)) true ty).run Tryd.prog wr = _ := fun ty => Lib.run_next_end_at wr wG.heap.size s pos ty hit hp
      rw [drop_nil s pos hp, quoteM_nil, List.nil_append] at hacc
      have hacc' := Lib.hid hacc
      clear hacc
      go_wp2_with fail
      refine (bWriteByte w.heap.size w.heap.size _ 34 _ hI (by rw [Lib.byteCells_length]; omega) (by omega)).mono ?_
      rintro e w1 ⟨rfl, h1, b1, -⟩
      rw [show (Value.int .u8 34) = Value.int .u8 (((34 : UInt8).toNat : Nat) : Int) from rfl, byteCells_snoc, hacc'.out] at h1
      have hbw1 := hbw.trans b1
      clear b1 hbw
      go_wp2_with fail
      refine (bString w.heap.size w.heap.size _ _ (Or.inr h1) hbw1.size).mono ?_
      rintro e w2 ⟨rfl, -, b2, -⟩
      go_wp2
      go_ret
      exact ⟨rfl, hbw1.trans b2⟩
end Go.Proofs.YtbeeeakcjeibgaaDoor
