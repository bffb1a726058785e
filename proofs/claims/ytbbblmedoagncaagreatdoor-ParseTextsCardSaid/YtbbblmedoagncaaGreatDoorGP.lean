/- Several texts in one: LexQ, ParXT, ParTx, ParText. -/
import Derived.Test.YtbbblmedoagncaaGreatDoorGH
import Derived.Test.YtbbblmedoagncaaGreatDoorGG
import Derived.Test.YtbbblmedoagncaaGreatDoorGI
import Derived.Test.YtbbblmedoagncaaGreatDoorMFitE
import Derived.Test.YtbbblmedoagncaaGreatDoorGX
import Derived.Test.YtbbblmedoagncaaGreatDoorGO
import Derived.Test.YtbbblmedoagncaaGreatDoorGB
import Derived.Test.YtbbblmedoagncaaGreatDoorMLexRL
import Derived.Test.YtbbblmedoagncaaGreatDoorGJ
import Derived.IntWalk
import Derived.Laws.BitsAllLaws
import Derived.Lib.TrimUEq
import Derived.Lib.SpaceUEq
import Derived.Lib.ItoaLen
import Derived.Lib.Join
import Derived.Shelf.Strconv.Itoa4
import Derived.Lib.AppendIntMem
import Derived.Shelf.Small.Strs
import Derived.Shelf.Small.Wraps
import Derived.Shelf.Strings.OnBuilder
import Derived.Deep.LoopGhost
namespace Go.Proofs.YtbbblmedoagncaaGreatDoor
/- The contract of lex.Quote: for every string of at most 2^40 bytes, the text as it is written in a formula. -/
section
open Go.RowKit

theorem quoteM_at (s : ByteArray) (pos : Nat) (h : pos < s.size) : quoteM (s.data.toList.drop pos) = quoteR (Utf8.decode s pos).1 ++ quoteM (s.data.toList.drop (pos + (Utf8.decode s pos).2)) := by
  rw [quoteM_step _ (drop_ne s pos h), Lib.decodeL_drop, List.drop_drop]
theorem quoteR_len6 (r : Nat) : (quoteR r).length ≤ 6 := by
  unfold quoteR
  split
  · simp
  · split
    · simp [hexL]
    · have := Lib.runeCells_le (r : Int); rw [Lib.runeCells_length] at this; omega
def QRel (s : ByteArray) (B K : Nat) (w wr : World) (pos : Nat) (acc : List UInt8) : Prop :=
  Lib.IsBuilderF 200 5 B B (Lib.byteCells acc) wr ∧ wr.heap[K]? = some (.stringIter s pos) ∧ Below B w wr ∧ acc ++ (quoteM (s.data.toList.drop pos) ++ [34]) = quoteL s.data.toList ∧ acc.length ≤ 1 + 6 * pos ∧ pos ≤ s.size
theorem byteCells_snoc (l : List UInt8) (c : UInt8) : Lib.byteCells l ++ [.int .u8 (c.toNat : Int)] = Lib.byteCells (l ++ [c]) := by simp [Lib.byteCells]
theorem QRel.next {s : ByteArray} {B K : Nat} {w w2 : World} {pos : Nat} {acc N : List UInt8} (hp : pos < s.size) (hacc : acc ++ (quoteM (s.data.toList.drop pos) ++ [34]) = quoteL s.data.toList) (hal : acc.length ≤ 1 + 6 * pos) (hN : quoteR (Utf8.decode s pos).1 = N)
    (h1 : Lib.IsBuilderF 200 5 B B (Lib.byteCells (acc ++ N)) w2) (hit : w2.heap[K]? = some (.stringIter s (pos + (Utf8.decode s pos).2))) (hb : Below B w w2) :
    ∃ pos acc, QRel s B K w w2 pos acc := by
  subst hN
  obtain ⟨hw1, hw2⟩ := width_in s pos hp
  refine ⟨pos + (Utf8.decode s pos).2, acc ++ quoteR (Utf8.decode s pos).1, h1, hit, hb, ?_, ?_, hw2⟩
  · rw [quoteM_at s pos hp, List.append_assoc] at hacc
    rw [List.append_assoc]; exact hacc
  · have := quoteR_len6 (Utf8.decode s pos).1
    rw [List.length_append]; omega
theorem and_15 : ∀ r : Fin 160, bits .and .i32 ((r.val : Nat) : Int) 15 = ((r.val % 16 : Nat) : Int) := by decide +kernel
theorem dig_get : ∀ d : Fin 16, ((⟨#[48, 49, 50, 51, 52, 53, 54, 55, 56, 57, 97, 98, 99, 100, 101, 102]⟩ : ByteArray)[d.val]'(by exact d.isLt)).toNat = (hx d.val).toNat := by decide +kernel

set_option maxHeartbeats 4000000 in
set_option maxRecDepth 1000000 in
theorem quote_any (s : ByteArray) (w : World) (hs : s.size ≤ 1099511627776) :
    Calls Tryz.prog 76 #[.string s] w fun e w' => e = .returned (.string ⟨(quoteL s.data.toList).toArray⟩) ∧ Below w.heap.size w w' := by
  have hF := Lib.IsBuilderF.of (Lib.fresh_isBuilder 200 5 w)
  have c1 := bWriteByte w.heap.size w.heap.size [] 34 _ hF (by simp) (by simp)
  clear hF
  go_enter Tryz.func76, Tryz.ntmps76
  go_wp2_with fail
  refine c1.mono ?_
  rintro e wG ⟨rfl, hG, hbG0, -⟩
  have hbG : Below w.heap.size w wG := (below_alloc w _).trans hbG0
  have hK0 : w.heap.size < wG.heap.size := Nat.lt_of_lt_of_le (by simp) hbG0.size
  clear hbG0 c1
  have h0 : QRel s w.heap.size wG.heap.size w (wG.iter s 0) 0 [34] :=
    ⟨Lib.IsBuilderF.alloc (Or.inr hG) _, World.iter_heap wG s 0, hbG.alloc (by omega) _, rfl, by simp, by omega⟩
  clear hG hbG
  have H0 := Lib.hid h0
  clear h0
  go_wp2
  go_loopw [] (fun wr => ∃ pos acc, QRel s w.heap.size wG.heap.size w wr pos acc) (fun wr => s.size - wr.iterPos wG.heap.size)
  case atStart => exact ⟨0, [34], H0.out⟩
  case round =>
    obtain ⟨pos, acc, hI, hit, hbw, hacc, hal, hps⟩ := hrel
    have hsz : wG.heap.size < wr.heap.size := (Array.getElem?_eq_some_iff.1 hit).1
    clear H0
    by_cases hp : pos < s.size
    · have hnx : ∀ ty, (Instr.next (.pointer (some ⟨wG.heap.size, 0, none⟩)) true ty).run Tryz.prog wr = _ := fun ty => Lib.run_next_any_at wr wG.heap.size s pos ty hit hp
      obtain ⟨hw1, hw2⟩ := width_in s pos hp
      have hr := Lib.rune_le s pos
      have hI2 := hI.iterAt hit (pos + (Utf8.decode s pos).2)
      have hit2 := Lib.iterAt_heap wr wG.heap.size s pos (pos + (Utf8.decode s pos).2) hit
      have hbw2 := Lib.below_iterAt hbw (k := wG.heap.size) (by omega) s (pos + (Utf8.decode s pos).2)
      have hsz2 : w.heap.size ≤ (wr.iterAt wG.heap.size s (pos + (Utf8.decode s pos).2)).heap.size := by rw [Lib.iterAt_size]; omega
      have hacc' := Lib.hid hacc
      have HIT := Lib.hid hit
      clear hacc hI hit hbw
      obtain ⟨r, hrr⟩ : ∃ r, (Utf8.decode s pos).1 = r := ⟨_, rfl⟩
      rw [hrr] at hnx hr
      have HRR := Lib.hid hrr
      clear hrr
      have cC := fun w => control_any r w
      by_cases hc : Ctrl r
      · simp only [hc, decide_true] at cC
        have hlt : r < 160 := by unfold Ctrl at hc; omega
        have hq : quoteR r = [92, 117, 48, 48] ++ [hx (r / 16)] ++ [hx (r % 16)] := quoteR_ctrl (by unfold Ctrl at hc; omega) hc
        have HQ := Lib.hid hq
        obtain ⟨d1, hd1⟩ : ∃ d1, r / 16 = d1 := ⟨_, rfl⟩
        obtain ⟨d2, hd2⟩ : ∃ d2, r % 16 = d2 := ⟨_, rfl⟩
        have hs1 : (r : Int) / 16 = (d1 : Int) := by omega
        have hs2 : (r : Int) / 2 ^ 4 = (d1 : Int) := by rw [show (2 : Int) ^ 4 = 16 by decide]; exact hs1
        have hs3 : bits .and .i32 (r : Int) 15 = (d2 : Int) := by have := and_15 ⟨r, hlt⟩; rw [← hd2]; exact this
        have hd16 : d1 < 16 := by omega
        have he16 : d2 < 16 := by omega
        have g1 := dig_get ⟨d1, hd16⟩
        have g2 := dig_get ⟨d2, he16⟩
        dsimp only at g1 g2
        have hz1 : (d1 : Int) < 16 := by omega
        have hz2 : (d2 : Int) < 16 := by omega
        rw [hd1, hd2] at hq
        have HQ2 := Lib.hid hq
        clear hc hq hd1 hd2 HQ
        go_wp2_with fail
        refine (cC _).mono ?_
        rintro e w0 ⟨rfl, rfl⟩
        clear cC
        go_wp2_with fail
        refine (bWriteString w.heap.size w.heap.size _ ⟨#[92, 117, 48, 48]⟩ _ hI2 (by rw [Lib.byteCells_length, show (⟨#[92, 117, 48, 48]⟩ : ByteArray).size = 4 from rfl]; omega) hsz2).mono ?_
        rintro e w1 ⟨rfl, h1, b1, k1⟩
        have hit3 := k1.iter hit2 (by omega)
        have hbw3 := hbw2.trans b1
        rw [show Lib.byteCells acc ++ Lib.strCells ⟨#[92, 117, 48, 48]⟩ = Lib.byteCells (acc ++ [92, 117, 48, 48]) by rw [Lib.byteCells_append]; rfl] at h1
        clear hI2 hit2 hbw2 b1 k1
        go_wp2_with fail
        refine (bWriteByte w.heap.size w.heap.size _ _ _ (Or.inr h1) (by rw [Lib.byteCells_length, List.length_append]; simp; omega) hbw3.size).mono ?_
        rintro e w2 ⟨rfl, h2, b2, k2⟩
        have hit4 := k2.iter hit3 (by omega)
        have hbw4 := hbw3.trans b2
        rw [byteCells_snoc] at h2
        clear h1 hit3 hbw3 b2 k2
        go_wp2_with fail
        refine (bWriteByte w.heap.size w.heap.size _ _ _ (Or.inr h2) (by rw [Lib.byteCells_length, List.length_append, List.length_append]; simp; omega) hbw4.size).mono ?_
        rintro e w3 ⟨rfl, h3, b3, k3⟩
        have hit5 := k3.iter hit4 (by omega)
        have hbw5 := hbw4.trans b3
        rw [byteCells_snoc, List.append_assoc, List.append_assoc, ← List.append_assoc [92, 117, 48, 48]] at h3
        clear h2 hit4 hbw4 b3 k3
        go_wp2
        go_roundw
        case rel => exact QRel.next hp hacc'.out hal (by rw [HRR.out]; exact HQ2.out) (Or.inr h3) hit5 hbw5
        case measure =>
          simp only [World.iterPos, hit5, HIT.out]
          omega
      · simp only [hc, decide_false] at cC
        by_cases hq : r = 34 ∨ r = 92
        · have hqr : quoteR r = [92] ++ Lib.encodeRune (r : Int) := quoteR_sign hq
          have HQ := Lib.hid hqr
          have hwa : ((r : Int) == 34) = true ∨ (((r : Int) == 34) = false ∧ ((r : Int) == 92) = true) := by
            rcases hq with rfl | rfl
            · exact .inl rfl
            · exact .inr ⟨rfl, rfl⟩
          clear hqr hq hc
          rcases hwa with t1 | ⟨t1, t2⟩
          all_goals
            go_wp2_with fail
            refine (cC _).mono ?_
            rintro e w0 ⟨rfl, rfl⟩
            go_wp2_with fail
            refine (bWriteByte w.heap.size w.heap.size _ 92 _ hI2 (by rw [Lib.byteCells_length]; omega) hsz2).mono ?_
            rintro e w1 ⟨rfl, h1, b1, k1⟩
            have hit3 := k1.iter hit2 (by omega)
            have hbw3 := hbw2.trans b1
            rw [show (Value.int .u8 92) = Value.int .u8 (((92 : UInt8).toNat : Nat) : Int) from rfl, byteCells_snoc] at h1
            clear hI2 hit2 hbw2 b1 k1
            go_wp2_with fail
            refine (bWriteRune w.heap.size w.heap.size _ _ (by omega) (by omega) _ (Or.inr h1) (by rw [Lib.byteCells_length, List.length_append]; simp; omega) hbw3.size).mono ?_
            rintro e w2 ⟨rfl, h2, b2, k2⟩
            have hit4 := k2.iter hit3 (by omega)
            rw [← Lib.byteCells_encodeRune, ← Lib.byteCells_append, List.append_assoc] at h2
            clear h1 hit3 k2
            go_wp2
            go_roundw
            case rel => exact QRel.next hp hacc'.out hal (by rw [HRR.out]; exact HQ.out) (Or.inr h2) hit4 (hbw3.trans b2)
            case measure =>
              simp only [World.iterPos, hit4, HIT.out]
              omega
        · have hqr : quoteR r = Lib.encodeRune (r : Int) := quoteR_else hq hc
          have HQ := Lib.hid hqr
          have t1 : ((r : Int) == 34) = false := beq_eq_false_iff_ne.2 (by omega)
          have t2 : ((r : Int) == 92) = false := beq_eq_false_iff_ne.2 (by omega)
          clear hqr hq hc
          go_wp2_with fail
          refine (cC _).mono ?_
          rintro e w0 ⟨rfl, rfl⟩
          go_wp2_with fail
          refine (bWriteRune w.heap.size w.heap.size _ _ (by omega) (by omega) _ hI2 (by rw [Lib.byteCells_length]; omega) hsz2).mono ?_
          rintro e w2 ⟨rfl, h2, b2, k2⟩
          have hit4 := k2.iter hit2 (by omega)
          rw [← Lib.byteCells_encodeRune, ← Lib.byteCells_append] at h2
          clear hI2 hit2 k2
          go_wp2
          go_roundw
          case rel => exact QRel.next hp hacc'.out hal (by rw [HRR.out]; exact HQ.out) (Or.inr h2) hit4 (hbw2.trans b2)
          case measure =>
            simp only [World.iterPos, hit4, HIT.out]
            omega
    · have hnx : ∀ ty, (Instr.next (.pointer (some ⟨wG.heap.size, 0, none⟩)) true ty).run Tryz.prog wr = _ := fun ty => Lib.run_next_end_at wr wG.heap.size s pos ty hit hp
      rw [drop_nil s pos hp, quoteM_nil, List.nil_append] at hacc
      have hacc' := Lib.hid hacc
      clear hacc
      go_wp2_with fail
      refine (bWriteByte w.heap.size w.heap.size _ 34 _ hI (by rw [Lib.byteCells_length]; omega) (by omega)).mono ?_
      rintro e w1 ⟨rfl, h1, b1, -⟩
      rw [show (Value.int .u8 34) = Value.int .u8 (((34 : UInt8).toNat : Nat) : Int) from rfl, byteCells_snoc, hacc'.out] at h1
      have hbw1 := hbw.trans b1
      clear b1 hbw
      go_wp2_with fail
      refine (bString w.heap.size w.heap.size _ _ (Or.inr h1) hbw1.size).mono ?_
      rintro e w2 ⟨rfl, -, b2, -⟩
      go_wp2
      go_ret
      exact ⟨rfl, hbw1.trans b2⟩
end
/- Plain mathematics: how long an expression's text is; how an operation with kids is written. -/
section
open Go.Lib

theorem len_count (l : List UInt8) : l.length ≤ 4 * countL l := by
  refine pcs_induct (Q := fun l => l.length ≤ 4 * countL l) (by simp) ?_ l
  intro l hne ih
  have h4 := decodeL_four l
  have : countL l = countL (l.drop (decodeL l).2) + 1 := by unfold countL; rw [pcs_step l hne]; simp
  rw [List.length_drop] at ih
  omega
theorem quote_len (l : List UInt8) : (quoteL l).length ≤ 6 * countL l + 2 := by
  unfold quoteL
  rw [List.length_cons, List.length_append, List.length_singleton]
  have : (quoteM l).length ≤ 6 * countL l := by
    refine pcs_induct (Q := fun l => (quoteM l).length ≤ 6 * countL l) (by simp [quoteM_nil]) ?_ l
    intro l hne ih
    have h4 := quoteR_len6 (decodeL l).1
    have : countL l = countL (l.drop (decodeL l).2) + 1 := by unfold countL; rw [pcs_step l hne]; simp
    rw [quoteM_step l hne, List.length_append]
    omega
  omega
/-- The line of an operation, its sign or word. -/
theorem form_ahead {op : Int} (h : op = 5 ∨ op = 6) : ∃ c : UInt8, formOfL op = (op, [c], 1, 6) ∧ ∀ ts, ownL op ts = c :: headL ts := by
  rcases h with rfl | rfl
  · exact ⟨45, rfl, fun _ => rfl⟩
  · exact ⟨33, rfl, fun _ => rfl⟩
theorem form_two {op : Int} (h : 7 ≤ op ∧ op ≤ 17) : ∃ l : Int, formOfL op = (op, signL op, 2, l) ∧ (¬ l = 0) ∧ (¬ l = 6) ∧ (signL op).length ≤ 2 ∧ ∀ ts, ownL op ts = 40 :: (headL ts ++ 32 :: (signL op ++ 32 :: (headL ts.tail ++ [41]))) := by
  have : op = 7 ∨ op = 8 ∨ op = 9 ∨ op = 10 ∨ op = 11 ∨ op = 12 ∨ op = 13 ∨ op = 14 ∨ op = 15 ∨ op = 16 ∨ op = 17 := by omega
  rcases this with rfl | rfl | rfl | rfl | rfl | rfl | rfl | rfl | rfl | rfl | rfl
  all_goals exact ⟨_, rfl, by decide, by decide, by decide, fun _ => rfl⟩
theorem form_call {op : Int} (h : 18 ≤ op ∧ op ≤ 23) : ∃ k : Int, formOfL op = (op, wordL op, k, 0) ∧ (wordL op).length ≤ 3 ∧ ∀ ts, ownL op ts = wordL op ++ 40 :: (commaL ts ++ [41]) := by
  have : op = 18 ∨ op = 19 ∨ op = 20 ∨ op = 21 ∨ op = 22 ∨ op = 23 := by omega
  rcases this with rfl | rfl | rfl | rfl | rfl | rfl
  all_goals exact ⟨_, rfl, by decide, fun _ => rfl⟩
theorem commaL_join : ∀ ts : List (List UInt8), commaL ts = join ts [44, 32]
  | [] => rfl
  | [a] => by rw [join_one]; rfl
  | a :: b :: l => by
    rw [commaL, commaL_join (b :: l), join_cons, join_cons, joinTail, joinTail]
    simp
theorem twoL_join (a b c : List UInt8) : join [a, b] c = a ++ (c ++ b) := by
  rw [join_cons, joinTail]; simp
/-- The lengths of texts, one behind the other. -/
def lenS : List (List UInt8) → Nat
  | [] => 0
  | a :: l => a.length + lenS l
theorem headL_len : ∀ ts, (headL ts).length ≤ lenS ts
  | [] => by simp [headL]
  | a :: l => by simp [headL, lenS]
theorem commaL_len : ∀ ts, (commaL ts).length ≤ lenS ts + 2 * ts.length
  | [] => by simp [commaL]
  | [a] => by simp [commaL, lenS]
  | a :: b :: l => by
    have := commaL_len (b :: l)
    rw [commaL, List.length_append, List.length_cons, List.length_cons]
    simp only [lenS, List.length_cons] at *
    omega
theorem lenS_tail : ∀ ts, lenS (ts.tail) + (headL ts).length ≤ lenS ts
  | [] => by simp [lenS, headL]
  | a :: l => by simp [headL, lenS]; omega
theorem ownL_len {op : Int} {ts : List (List UInt8)} (h : 5 ≤ op ∧ op ≤ 23) (hk : ts.length ≤ 3) : (ownL op ts).length ≤ lenS ts + 20 := by
  by_cases h1 : op = 5 ∨ op = 6
  · obtain ⟨c, -, e⟩ := form_ahead h1
    rw [e, List.length_cons]
    have := headL_len ts
    omega
  by_cases h2 : op ≤ 17
  · obtain ⟨l, -, -, -, e2, e⟩ := form_two (op := op) (by omega)
    rw [e]
    simp only [List.length_cons, List.length_append, List.length_nil]
    have a := headL_len ts.tail
    have b := lenS_tail ts
    omega
  · obtain ⟨l, -, e2, e⟩ := form_call (op := op) (by omega)
    rw [e]
    simp only [List.length_cons, List.length_append, List.length_nil]
    have := commaL_len ts
    omega
theorem textsL_len : ∀ es, (textsL es).length = es.length
  | [] => rfl
  | e :: es => by rw [textsL, List.length_cons, List.length_cons, textsL_len es]
theorem arity_three {op : Int} {k : Nat} (h : arity op = some k) (hop : ¬ (1 ≤ op ∧ op ≤ 4)) : (5 ≤ op ∧ op ≤ 23) ∧ 1 ≤ k ∧ k ≤ 3 := by
  have := arity_in h
  omega
mutual
theorem textE_len : ∀ e : Ex, allB e = true → fitE e → (textE e).length ≤ 1000 * nodes e
  | .mk op n s ks, h, hf => by
    obtain ⟨ha, hp, hh⟩ := part_arity (all_part h)
    have hkl : allBL ks = true := by rw [allB] at h; simp only [Bool.and_eq_true] at h; exact h.2
    rw [fitE] at hf
    have ih := textsL_len2 ks hkl hf.2
    rw [textE, nodes]
    unfold plainB at hp
    split
    · next h1 =>
      rw [if_pos h1] at hp
      simp only [Bool.and_eq_true, decide_eq_true_eq] at hp
      have := itoa_length_le n (by omega) hf.1
      omega
    split
    · next h1 h2 =>
      rw [if_neg h1, if_pos h2] at hp
      unfold textB at hp
      simp only [Bool.and_eq_true, decide_eq_true_eq] at hp
      have := quote_len s
      omega
    split
    · split <;> simp [wTrue, wFalse] <;> omega
    split
    · next h1 h2 h3 h4 =>
      rw [if_neg h1, if_neg h2, if_neg h3, if_pos h4] at hp
      unfold nameB at hp
      simp only [Bool.and_eq_true, decide_eq_true_eq] at hp
      omega
    · next h1 h2 h3 h4 =>
      obtain ⟨a1, a2, a3⟩ := arity_three ha (by omega)
      have := ownL_len a1 (ts := textsL ks) (by rw [textsL_len]; exact a3)
      omega
theorem textsL_len2 : ∀ es : List Ex, allBL es = true → fitL es → lenS (textsL es) ≤ 1000 * nodesL es
  | [], _, _ => by simp [textsL, lenS]
  | e :: es, h, hf => by
    rw [allBL] at h
    simp only [Bool.and_eq_true] at h
    rw [fitL] at hf
    have a := textE_len e h.1 hf.1
    have b := textsL_len2 es h.2 hf.2
    rw [textsL, lenS, nodesL]
    omega
end
end
/- parse.text: an expression that may be, as a formula. -/
section
open Go.RowKit

theorem formatInt_any (n : Int) (h0 : -9223372036854775808 ≤ n) (h1 : n ≤ 9223372036854775807) (w : World) (hP : EnvP w) :
    Calls Tryz.prog 75 #[.int .i64 n, .int .i64 10] w fun e w' => e = .returned (.string ⟨(Lib.itoa n).toArray⟩) ∧ Below w.heap.size w w' :=
  (Any.strconv_FormatInt_10 Tryz.more173 n h0 h1 w hP.pow).mono fun _ _ ⟨he, _, _, hw⟩ => ⟨he, hw ▸ Lib.below_grow w.heap.size w (Nat.le_refl _) _ _⟩
theorem formatBool_any (b : Bool) (w : World) :
    Calls Tryz.prog 77 #[.bool b] w fun e w' => e = .returned (.string ⟨(Lib.formatBool b).toArray⟩) ∧ w' = w :=
  Any.strconv_FormatBool Tryz.more121 b w
/-- Texts, as they lie in a row. -/
def strV (t : List UInt8) : Value := .string ⟨t.toArray⟩
theorem textsL_take (ks : List Ex) : ∀ j, textsL (ks.take j) = (textsL ks).take j := by
  induction ks with
  | nil => intro j; simp [textsL]
  | cons k ks ih =>
    intro j
    cases j with
    | zero => simp [textsL]
    | succ j => rw [List.take_succ_cons, textsL, textsL, List.take_succ_cons, ih]
theorem textsL_at {ks : List Ex} {j : Nat} (h : j < ks.length) : textsL (ks.take (j + 1)) = textsL (ks.take j) ++ [textE ks[j]] := by
  induction ks generalizing j with
  | nil => simp at h
  | cons k ks ih =>
    cases j with
    | zero => simp [textsL]
    | succ j =>
      rw [List.take_succ_cons, List.take_succ_cons, textsL, textsL, ih (by simpa using h)]
      simp
section
set_option maxHeartbeats 2000000 in
set_option maxRecDepth 100000 in
theorem text_leaf (op n : Int) (s : List UInt8) (v : Value) (S : Nat → Prop) (w : World) (hv : ExIn w S (.mk op n s []) v) (hE : EnvP w) (ha : allB (.mk op n s []) = true) (hop : 1 ≤ op ∧ op ≤ 4) :
    Calls Tryz.prog 34 #[v] w fun en w' => en = .returned (.string ⟨(textE (.mk op n s [])).toArray⟩) ∧ Below w.heap.size w w' := by
  obtain ⟨ao, cap, rfl, h2, h3, hr, hk⟩ := hv.get
  have hfit := hv.fit
  obtain ⟨-, hp, -⟩ := part_arity (all_part ha)
  unfold Ex.op Ex.num Ex.str Ex.kids at *
  dsimp only at *
  simp only [List.length_nil] at *
  have hX := four_new w (.int .i64 op) (.int .i64 n) (.string ⟨s.toArray⟩) (.slice ao 0 cap) 24
  have hbX := below_alloc w (.cells #[.int .i64 op, .int .i64 n, .string ⟨s.toArray⟩, .slice ao 0 cap] 24)
  have hEX := hE.later hbX
  obtain ⟨wX, hwX⟩ : ∃ wX, w.alloc (.cells #[.int .i64 op, .int .i64 n, .string ⟨s.toArray⟩, .slice ao 0 cap] 24) = wX := ⟨_, rfl⟩
  rw [hwX] at hX hbX hEX
  obtain ⟨-, x0, x1, x2, x3, -⟩ := hX
  have : op = 1 ∨ op = 2 ∨ op = 3 ∨ op = 4 := by omega
  rcases this with rfl | rfl | rfl | rfl
  · have hI := hr.2.1
    have c := formatInt_any n hI.1 hI.2 wX hEX
    rw [show textE (.mk 1 n s []) = Lib.itoa n by rw [textE]; rfl]
    clear hk hv
    go_enter Tryz.func34, Tryz.ntmps34
    go_wp2_with fail
    refine c.mono ?_
    rintro e w1 ⟨rfl, b1⟩
    go_wp2_with fail
    exact bodyPost_ret (v := .string ⟨(Lib.itoa n).toArray⟩) (by simp [results, Tryz.results34, go_sem]) rfl ⟨rfl, below_to hbX b1⟩
  · have hl := len_count s
    have hcl : countL s ≤ 100 := by
      simp [plainB, textB] at hp
      exact hp.2.2
    have c := quote_any ⟨s.toArray⟩ wX (by have : (⟨s.toArray⟩ : ByteArray).size = s.length := by simp [ByteArray.size]
                                           omega)
    rw [show (⟨s.toArray⟩ : ByteArray).data.toList = s by simp] at c
    rw [show textE (.mk 2 n s []) = quoteL s by rw [textE]; rfl]
    clear hk hv
    go_enter Tryz.func34, Tryz.ntmps34
    go_wp2_with fail
    refine c.mono ?_
    rintro e w1 ⟨rfl, b1⟩
    go_wp2_with fail
    exact bodyPost_ret (v := .string ⟨(quoteL s).toArray⟩) (by simp [results, Tryz.results34, go_sem]) rfl ⟨rfl, below_to hbX b1⟩
  · have c := formatBool_any (n == 1) wX
    rw [show textE (.mk 3 n s []) = Lib.formatBool (n == 1) by rw [textE]; by_cases h1 : n = 1 <;> simp [h1, Lib.formatBool, wTrue, wFalse] <;> first | rfl | decide +kernel]
    clear hk hv
    go_enter Tryz.func34, Tryz.ntmps34
    go_wp2_with fail
    refine c.mono ?_
    rintro e w1 ⟨rfl, rfl⟩
    go_wp2_with fail
    exact bodyPost_ret (v := .string ⟨(Lib.formatBool (n == 1)).toArray⟩) (by simp [results, Tryz.results34, go_sem]) rfl ⟨rfl, hbX⟩
  · rw [textE_name]
    clear hk hv
    go_enter Tryz.func34, Tryz.ntmps34
    go_wp2_with fail
    exact bodyPost_ret (v := .string ⟨s.toArray⟩) (by simp [results, Tryz.results34, go_sem]) rfl ⟨rfl, hbX⟩
theorem str_app (a b : List UInt8) : (⟨a.toArray⟩ ++ ⟨b.toArray⟩ : ByteArray) = ⟨(a ++ b).toArray⟩ := by apply ByteArray.ext; simp
theorem cell_drewN (w : World) (q : Nat) (p : Addr) : (w.drewN q).cell? p = w.cell? p := by unfold World.cell?; rw [show (w.drewN q).heap = w.heap from by first | rfl | simp [World.drewN]]
theorem join_any (g cap : Nat) (ts : List (List UInt8)) (sep : List UInt8) (w : World) (hc : ∀ (j : Nat) t, ts[j]? = some t → w.cell? ⟨g, j, none⟩ = some (.string ⟨t.toArray⟩)) (hg : g < w.heap.size) (hN : ts.length ≤ 1000) (hcap : ts.length ≤ cap) (hl : (Lib.join ts sep).length ≤ 140737488355328) :
    Calls Tryz.prog 79 #[.slice (some ⟨g, 0, none⟩) ts.length cap, .string ⟨sep.toArray⟩] w fun e w' => e = .returned (.string ⟨(Lib.join ts sep).toArray⟩) ∧ Below w.heap.size w w' := by
  have hm : (ts.map fun t => (⟨t.toArray⟩ : ByteArray)).map (fun s => s.data.toList) = ts := by rw [List.map_map]; exact List.map_id ts
  have c := Any.strings_Join Tryz.more156 Tryz.extraB g 0 cap (ts.map fun t => ⟨t.toArray⟩) ⟨sep.toArray⟩ w (fun j x hx => by
    rw [List.getElem?_map] at hx
    cases ht : ts[j]? with
    | none => rw [ht] at hx; cases hx
    | some t =>
      rw [ht] at hx
      simp only [Option.map_some, Option.some.injEq] at hx
      subst hx
      rw [Nat.zero_add]; exact hc j t ht) hg (by rw [List.length_map]; omega) (by rw [List.length_map]; exact hcap) (by rw [hm]; simpa using hl)
  rw [hm, List.length_map, show (⟨sep.toArray⟩ : ByteArray).data.toList = sep by simp] at c
  exact c
/-- How many kids' texts lie in the row. -/
def KTx (w wr : World) (v : Value) (j : Nat) (ks : List Ex) : Prop := wr.ownsRow w.heap.size 9 1 v j ((textsL (ks.take j)).map strV) ∧ Below w.heap.size w wr
set_option maxHeartbeats 4000000 in
set_option maxRecDepth 100000 in
theorem text_all : ∀ (F : Nat) (e : Ex), nodes e ≤ F → nodes e ≤ 100000 → ∀ (v : Value) (S : Nat → Prop) (w : World), ExIn w S e v → EnvP w → allB e = true →
    Calls Tryz.prog 34 #[v] w fun en w' => en = .returned (.string ⟨(textE e).toArray⟩) ∧ Below w.heap.size w w'
  | 0, e, hF, _, _, _, _, _, _, _ => absurd hF (by have := nodes_pos e; omega)
  | F + 1, .mk op n s ks, hF, hN, v, S, w, hv, hE, ha => by
    have IH := text_all F
    have hfit := hv.fit
    have hlE := textE_len _ ha hfit
    obtain ⟨har, hp, hh⟩ := part_arity (all_part ha)
    by_cases hop : 1 ≤ op ∧ op ≤ 4
    · have h0 : ks.length = 0 := by have := arity_in har; omega
      obtain rfl := List.length_eq_zero_iff.1 h0
      exact text_leaf op n s v S w hv hE ha hop
    obtain ⟨h523, k1, k3⟩ := arity_three har hop
    have hkl : allBL ks = true := by rw [allB] at ha; simp only [Bool.and_eq_true] at ha; exact ha.2
    rw [fitE] at hfit
    have hlS := textsL_len2 ks hkl hfit.2
    have hnl : nodesL ks + 1 ≤ 100000 := by rw [nodes] at hN; omega
    have hnF : nodesL ks ≤ F := by rw [nodes] at hF; omega
    have hte : textE (.mk op n s ks) = ownL op (textsL ks) := by
      rw [textE, if_neg (by omega), if_neg (by omega), if_neg (by omega), if_neg (by omega)]
    rw [hte] at hlE ⊢
    have hvv := hv
    obtain ⟨ao, cap, rfl, h2, h3, hr, hk⟩ := hv.get
    unfold Ex.op Ex.num Ex.str Ex.kids at *
    dsimp only at *
    obtain ⟨i0, hi, hz0, hz1, hz2⟩ := info_parts (show (Tryz.prog.info? 9).map (fun i => (i.zero, i.size, i.bytes)) = some (some (.string ⟨#[]⟩), 1, 16) by kernel_rfl)
    have hX := four_new w (.int .i64 op) (.int .i64 n) (.string ⟨s.toArray⟩) (.slice ao ks.length cap) 24
    have hbX := below_alloc w (.cells #[.int .i64 op, .int .i64 n, .string ⟨s.toArray⟩, .slice ao ks.length cap] 24)
    obtain ⟨wX, hwX⟩ : ∃ wX, w.alloc (.cells #[.int .i64 op, .int .i64 n, .string ⟨s.toArray⟩, .slice ao ks.length cap] 24) = wX := ⟨_, rfl⟩
    rw [hwX] at hX hbX
    have hE := hE.later hbX
    have hk : 0 < ks.length → ∃ g o, ao = some ⟨g, o, none⟩ ∧ S g ∧ g < wX.heap.size ∧ RowIn wX S g o ks := fun h => by
      obtain ⟨g, o, a, b, c, d⟩ := hk h
      exact ⟨g, o, a, b, Nat.lt_of_lt_of_le c hbX.size, RowIn.stays (.of hbX) ks g o b c d⟩
    have hX' := hX
    obtain ⟨-, x0, x1, x2, x3, -⟩ := hX'
    have q1 : (op == 1) = false := by rw [beq_eq_false_iff_ne]; omega
    have q2 : (op == 2) = false := by rw [beq_eq_false_iff_ne]; omega
    have q3 : (op == 3) = false := by rw [beq_eq_false_iff_ne]; omega
    have q4 : (op == 4) = false := by rw [beq_eq_false_iff_ne]; omega
    have HR : Hid (KTx wX wX (.slice none 0 0) 0 ks) := Lib.hid ⟨World.ownsRow_nil _ _ _ _, Below.refl _ _⟩
    have HBX := Lib.hid hbX
    have HX := Lib.hid hX
    have HE := Lib.hid hE
    have HK := Lib.hid hk
    have HA := Lib.hid hkl
    have HAR := Lib.hid har
    have HLS := Lib.hid hlS
    clear hvv hv hX hbX hE hk hkl hfit ha hp hh har hr hte hlE hlS
    go_enter Tryz.func34, Tryz.ntmps34
    go_wp2_with fail
    go_loopg [3, 32] (ks.length) (fun a s3 s32 wr => ∃ (j : Nat), j + a = ks.length ∧ s32 = .int .i64 (j : Int) ∧ Hid (KTx wX wr s3 j ks))
    case atStart => exact ⟨0, by omega, rfl, HR⟩
    case round =>
      obtain ⟨j, hja, rfl, HW⟩ := hrel
      clear HR x0 x1 x2 x3 hwX
      have HJ := Lib.hid hja
      by_cases hjk : j < ks.length
      · have hjz : (j : Int) < (ks.length : Int) := by omega
        obtain ⟨g, o, rfl, hS, hg, hrow⟩ := HK.out (by omega)
        obtain ⟨hown, hB⟩ := HW.out
        have hx : ks[j]? = some ks[j] := List.getElem?_eq_getElem hjk
        have hrow2 := RowIn.stays (.of hB) ks g o hS hg hrow
        obtain ⟨v0, v1, v2, v3, c0, c1, c2, c3, he⟩ := hrow2.at hx
        obtain ⟨ao2, cap2, hev, -⟩ := he.get
        obtain ⟨rfl, rfl, rfl, rfl⟩ := agg4 hev
        clear hev
        have hgr : g < wr.heap.size := Nat.lt_of_lt_of_le hg hB.size
        have hbA := below_alloc wr (.cells #[.int .i64 ks[j].op, .int .i64 ks[j].num, .string ⟨ks[j].str.toArray⟩, .slice ao2 ks[j].kids.length cap2] 24)
        have hA := four_new wr (.int .i64 ks[j].op) (.int .i64 ks[j].num) (.string ⟨ks[j].str.toArray⟩) (.slice ao2 ks[j].kids.length cap2) 24
        have hbT := hB.alloc hB.size (.cells #[.int .i64 ks[j].op, .int .i64 ks[j].num, .string ⟨ks[j].str.toArray⟩, .slice ao2 ks[j].kids.length cap2] 24)
        have hownA := own_later hown hbA
        have hkn : nodes ks[j] ≤ nodesL ks := nodes_kid (List.getElem_mem hjk)
        have hka : allB ks[j] = true := all_kid HA.out (List.getElem_mem hjk)
        have cI := IH ks[j] (by omega) (by omega) _ S _ (he.later hbA) (HE.out.later hbT) hka
        have HBT := Lib.hid hbT
        have HOA := Lib.hid hownA
        obtain ⟨-, z0, z1, z2, z3, -⟩ := hA
        clear HW hrow hrow2 he hbA hbT hB HK hja hx IH hown hownA hka hkn
        go_wp2_with fail
        refine cI.mono ?_
        rintro en w2 ⟨rfl, b2⟩
        have hown2 := own_later HOA.out b2
        have hb2 := below_to HBT.out b2
        have hb3 := hb2.alloc hb2.size (.cells #[.string ⟨(textE ks[j]).toArray⟩] 9)
        have hown3 := own_later hown2 (below_alloc w2 (.cells #[.string ⟨(textE ks[j]).toArray⟩] 9))
        have hlw := hb2.size
        have HB3 := Lib.hid hb3
        have HO3 := Lib.hid hown3
        clear cI b2 hown2 hb2 hb3 hown3 HBT HOA c0 c1 c2 c3 z0 z1 z2 z3
        go_wp2_with (at_builtin; refine wpList_append_own _ rfl _ _ 30 rfl wX.heap.size 9 i0 _ 1 16 Tryz.underlying30 hi hz0 hz1 hz2 rfl (by decide) _ _ _ rfl HO3.out ⟨w2.heap.size, 0, none⟩ 1 1 [.string ⟨(textE ks[j]).toArray⟩] rfl rfl (one_news _ _ _) (str_cell _) ?c3 ?c4 ?c5 ?_)
        case c3 => unfold maxLen; omega
        case c4 => omega
        case c5 => rw [alloc_size]; omega
        intro v' w4 hown' hgrow hnil
        have hW4 : KTx wX w4 v' (j + 1) ks := by
          refine ⟨by rw [textsL_at hjk, List.map_append]; exact hown', ?_⟩
          exact below_grown HB3.out (Nat.le_refl _) hgrow (fun b hb => (own_blk HO3.out b hb).1)
        have HW4 := Lib.hid hW4
        clear hown' hgrow hnil hW4 HB3 HO3
        go_wp2_with fail
        go_roundg (ks.length - (j + 1))
        case measure => have := HJ.out; omega
        case rel => exact ⟨j + 1, by have := HJ.out; omega, by go_num, HW4⟩
      · have hjz : ¬ (j : Int) < (ks.length : Int) := by omega
        have hj : j = ks.length := by have := HJ.out; omega
        subst hj
        obtain ⟨hown, hB⟩ := HW.out
        rw [List.take_length] at hown
        have hE2 := HE.out.later hB
        have har := HAR.out
        obtain ⟨-, x0, x1, x2, x3, -⟩ := HX.out.later hB
        have HB := Lib.hid (below_to HBX.out hB)
        have cF := formof_any op wr hE2.forms
        obtain ⟨ao3, cap3, rfl, hc3, hm3, hrow3⟩ := own_slice hown
        obtain ⟨g3, rfl, hg3, hcell⟩ := hrow3 k1
        have hT := textsL_len ks
        have hlS := HLS.out
        clear HW HJ hja IH HK hown hrow3 hi hz0 hz1 hz2 HE HX
        by_cases h56 : op = 5 ∨ op = 6
        · have hl1 : ks.length = 1 := by have := arity_in har; omega
          obtain ⟨t0, ht0⟩ : ∃ t0, textsL ks = [t0] := List.length_eq_one_iff.1 (by rw [hT, hl1])
          obtain ⟨c, hf, ho⟩ := form_ahead h56
          rw [hf] at cF
          have hc0 := hcell 0 (strV t0) (by rw [ht0]; rfl)
          have hl1z : (ks.length : Int) = 1 := by omega
          clear hcell
          go_wp2_with fail
          refine cF.mono ?_
          rintro en w2 ⟨rfl, b2⟩
          have hb2 := below_to HB.out b2
          have hc2 : w2.cell? ⟨g3, 0, none⟩ = some (strV t0) := by rw [b2.cell (p := ⟨g3, 0, none⟩) hg3]; exact hc0
          have hg2 : g3 < w2.heap.size := Nat.lt_of_lt_of_le hg3 b2.size
          have HB2 := Lib.hid (hb2.alloc hb2.size (.cells #[.int .i64 op, .string ⟨[c].toArray⟩, .int .i64 1, .int .i64 6] 131))
          have hll := HLS.out
          rw [ht0] at hll
          have hlt : t0.length ≤ 100000000 := by simp only [lenS] at hll; omega
          have hgn : ¬ g3 = w2.heap.size := by omega
          unfold strV at hc2
          clear hc0 cF b2 hb2 hll x0 x1 x2 x3
          go_wp2_with fail
          go_quiet (fail)
          go_wp2_with fail
          exact bodyPost_ret (v := .string ((⟨[c].toArray⟩ : ByteArray) ++ (⟨t0.toArray⟩ : ByteArray))) (by simp [results, Tryz.results34, go_sem]) rfl ⟨by rw [ho, ht0, str_app]; rfl, below_drewN HB2.out _⟩
        by_cases h17 : op ≤ 17
        · have hl2 : ks.length = 2 := by have := arity_in har; omega
          obtain ⟨t0, t1, ht0⟩ : ∃ t0 t1, textsL ks = [t0, t1] := len_two (by rw [hT, hl2])
          obtain ⟨ln, hf, hl0, hl6, hsl, ho⟩ := form_two (op := op) (by omega)
          rw [hf] at cF
          have hc0 := hcell 0 (strV t0) (by rw [ht0]; rfl)
          have hc1 := hcell 1 (strV t1) (by rw [ht0]; rfl)
          have hl2z : (ks.length : Int) = 2 := by omega
          have hcell' : ∀ (j : Nat) t, (textsL ks)[j]? = some t → wr.cell? ⟨g3, j, none⟩ = some (.string ⟨t.toArray⟩) := fun j t hj => hcell j _ (by rw [List.getElem?_map, hj]; rfl)
          clear hcell
          go_wp2_with fail
          refine cF.mono ?_
          rintro en w2 ⟨rfl, b2⟩
          have hb2 := below_to HB.out b2
          have hg2 : g3 < w2.heap.size := Nat.lt_of_lt_of_le hg3 b2.size
          have HB2 := Lib.hid (hb2.alloc hb2.size (.cells #[.int .i64 op, .string ⟨(signL op).toArray⟩, .int .i64 2, .int .i64 ln] 131))
          have hll := HLS.out
          rw [ht0] at hll
          have hgn : ¬ g3 = w2.heap.size := by omega
          have hq0 : (ln == 0) = false := beq_eq_false_iff_ne.2 hl0
          have hq6 : (ln == 6) = false := beq_eq_false_iff_ne.2 hl6
          have cJ := join_any g3 cap3 [t0, t1] ([32] ++ signL op ++ [32]) (w2.alloc (.cells #[.int .i64 op, .string ⟨(signL op).toArray⟩, .int .i64 2, .int .i64 ln] 131))
            (fun j t hj => by
              rw [(below_alloc w2 _).cell (p := ⟨g3, j, none⟩) hg2, b2.cell (p := ⟨g3, j, none⟩) hg3]
              exact hcell' j t (by rw [ht0]; exact hj)) (by simp; omega) (by simp) (by simp; omega) (by
              rw [twoL_join]; simp only [lenS, List.length_append, List.length_cons, List.length_nil] at hll ⊢; omega)
          rw [show (⟨([32] ++ signL op ++ [32] : List UInt8).toArray⟩ : ByteArray) = (⟨#[32]⟩ : ByteArray) ++ (⟨(signL op).toArray⟩ : ByteArray) ++ (⟨#[32]⟩ : ByteArray) by apply ByteArray.ext; simp] at cJ
          have hJl : (Lib.join [t0, t1] (32 :: (signL op ++ [32]))).length < 9000000000 := by
            rw [twoL_join]; simp only [lenS, List.length_append, List.length_cons, List.length_nil] at hll ⊢; omega
          have hov1 : ¬ 9223372036854775807 < 1 + (Lib.join [t0, t1] (32 :: (signL op ++ [32]))).length := by omega
          have hov2 : ¬ 9223372036854775807 < 1 + (Lib.join [t0, t1] (32 :: (signL op ++ [32]))).length + 1 := by omega
          clear cF hb2 x0 x1 x2 x3 b2 hc0 hc1 hll hcell'
          go_wp2_with fail
          refine cJ.mono ?_
          rintro en w3 ⟨rfl, b3⟩
          have hb3 := below_to HB2.out b3
          clear cJ b3
          go_wp2_with fail
          exact bodyPost_ret (v := .string ((⟨#[40]⟩ : ByteArray) ++ (⟨(Lib.join [t0, t1] (32 :: (signL op ++ [32]))).toArray⟩ : ByteArray) ++ (⟨#[41]⟩ : ByteArray))) (by simp [results, Tryz.results34, go_sem]) rfl ⟨by
            rw [ho, ht0, twoL_join]
            congr 3
            apply ByteArray.ext; simp [headL], hb3⟩
        · have hl2 : 1 ≤ ks.length := k1
          obtain ⟨kk, hf, hsl, ho⟩ := form_call (op := op) (by omega)
          rw [hf] at cF
          clear x1 x2 x3
          go_wp2_with fail
          refine cF.mono ?_
          rintro en w2 ⟨rfl, b2⟩
          have hb2 := below_to HB.out b2
          have hg2 : g3 < w2.heap.size := Nat.lt_of_lt_of_le hg3 b2.size
          have HB2 := Lib.hid (hb2.alloc hb2.size (.cells #[.int .i64 op, .string ⟨(wordL op).toArray⟩, .int .i64 kk, .int .i64 0] 131))
          have hgn : ¬ g3 = w2.heap.size := by omega
          have hwl : (wordL op).length < 100 := by omega
          have hll := HLS.out
          have hcl := commaL_len (textsL ks)
          have cJ := fun q => join_any g3 cap3 (textsL ks) [44, 32] ((w2.alloc (.cells #[.int .i64 op, .string ⟨(wordL op).toArray⟩, .int .i64 kk, .int .i64 0] 131)).drewN q)
            (fun j t hj => by
              rw [cell_drewN, (below_alloc w2 _).cell (p := ⟨g3, j, none⟩) hg2, b2.cell (p := ⟨g3, j, none⟩) hg3]
              exact hcell j _ (by rw [List.getElem?_map, hj]; rfl)) (by simp; omega) (by omega) (by omega) (by
              rw [← commaL_join]; omega)
          rw [hT] at cJ
          have hJl : (Lib.join (textsL ks) [44, 32]).length < 1000000000 := by rw [← commaL_join]; omega
          have HF4 := Lib.hid (four_new w2 (.int .i64 op) (.string ⟨(wordL op).toArray⟩) (.int .i64 kk) (.int .i64 0) 131)
          have hov0 : ¬ 9223372036854775807 < (wordL op).length + 1 := by omega
          have hov1 : ¬ 9223372036854775807 < (wordL op).length + 1 + (Lib.join (textsL ks) [44, 32]).length := by omega
          have hov2 : ¬ 9223372036854775807 < (wordL op).length + 1 + (Lib.join (textsL ks) [44, 32]).length + 1 := by omega
          clear cF hb2 x0 b2 hcell hll hcl
          go_wp2_with fail
          go_region_with (go_at_call 79; refine (cJ _).mono ?_; rintro e wy ⟨rfl, hby⟩; obtain ⟨-, z0, z1, z2, z3, -⟩ := (HF4.out.later (below_drewN (Below.refl _ _) _)).later hby)
          all_goals
            go_wp2_with fail
            go_ret
            have hb3 := below_to (below_drewN HB2.out _) hby
            refine ⟨?_, by first | exact hb3 | exact below_drewN hb3 _⟩
            rw [ho, commaL_join]
            refine congrArg Ending.returned (Eq.trans (b := Value.string ((⟨(wordL op).toArray⟩ : ByteArray) ++ (⟨#[40]⟩ : ByteArray) ++ (⟨(Lib.join (textsL ks) [44, 32]).toArray⟩ : ByteArray) ++ (⟨#[41]⟩ : ByteArray))) ?_ (congrArg Value.string (ByteArray.ext (by simp))))
            first | rfl | simp [go_sem]
end
end
/- parse.Text. -/
section
open Go.RowKit

set_option maxHeartbeats 2000000 in
set_option maxRecDepth 100000 in
/-- parse.Text: of an expression that may be, its own text; of another one, nothing. -/
theorem ptext_any (e : Ex) (v : Value) (S : Nat → Prop) (w : World) (hE : EnvP w) (hv : ExIn w S e v) :
    Calls Tryz.prog 9 #[v] w fun en w' => en = .returned (.string ⟨(if chkB e then textE e else []).toArray⟩) ∧ Below w.heap.size w w' := by
  obtain ⟨ao, cap, rfl, h2, h3, hr, hk⟩ := hv.get
  have hX := four_new w (.int .i64 e.op) (.int .i64 e.num) (.string ⟨e.str.toArray⟩) (.slice ao e.kids.length cap) 24
  have hbX := below_alloc w (.cells #[.int .i64 e.op, .int .i64 e.num, .string ⟨e.str.toArray⟩, .slice ao e.kids.length cap] 24)
  have hEX := hE.later hbX
  have hvX := hv.later hbX
  have c := pcheck_any e _ S _ hEX hvX
  obtain ⟨wX, hwX⟩ : ∃ wX, w.alloc (.cells #[.int .i64 e.op, .int .i64 e.num, .string ⟨e.str.toArray⟩, .slice ao e.kids.length cap] 24) = wX := ⟨_, rfl⟩
  rw [hwX] at hX hbX c hEX hvX
  have hX' := hX
  obtain ⟨-, x0, x1, x2, x3, -⟩ := hX
  cases hc : chkB e with
  | false =>
    rw [hc] at c
    clear hk hv hX' hEX hvX
    go_enter Tryz.func9, Tryz.ntmps9
    go_wp2_with fail
    refine c.mono ?_
    rintro en w1 ⟨rfl, b1⟩
    go_wp2_with fail
    exact bodyPost_ret (v := .string ⟨#[]⟩) (by simp [results, Tryz.results9, go_sem]) rfl ⟨rfl, below_to hbX b1⟩
  | true =>
    rw [hc] at c
    unfold chkB at hc
    simp only [Bool.and_eq_true, decide_eq_true_eq] at hc
    have cT := fun w1 (b : Below wX.heap.size wX w1) => text_all (nodes e) e (Nat.le_refl _) (by omega) _ S w1 (hvX.later b) (hEX.later b) hc.2
    clear hk hv hEX hvX
    go_enter Tryz.func9, Tryz.ntmps9
    go_wp2_with fail
    refine c.mono ?_
    rintro en w1 ⟨rfl, b1⟩
    have c2 := cT w1 b1
    obtain ⟨-, y0, y1, y2, y3, -⟩ := hX'.later b1
    clear c cT x0 x1 x2 x3 hwX
    go_wp2_with fail
    refine c2.mono ?_
    rintro en w2 ⟨rfl, b2⟩
    go_wp2_with fail
    exact bodyPost_ret (v := .string ⟨(textE e).toArray⟩) (by simp [results, Tryz.results9, go_sem]) rfl ⟨by simp, below_to (below_to hbX b1) b2⟩
end
end Go.Proofs.YtbbblmedoagncaaGreatDoor
