/- The contract of value.escaped: whatever the text, some rune below 2^16 and how many bytes it takes; the right ones, where an item stands there. -/
import Derived.Test.YtfcigknalnmhcaaDoorVShow
import Derived.Lib.IndexLaws
import Derived.Test.YtfcigknalnmhcaaDoorVBase
import Derived.Test.YtfcigknalnmhcaaDoorVHex
import Derived.Laws.BitsLemmas
import Derived.IntWalk
namespace Go.Proofs.YtfcigknalnmhcaaDoor
/- Plain mathematics: what is read of a quoted text, item by item: by the program, and by the document's own. No program stands in this text. -/
section
open Go.Lib

def hexD : List UInt8 := [48, 49, 50, 51, 52, 53, 54, 55, 56, 57, 97, 98, 99, 100, 101, 102]
theorem hexD_at : ∀ d : Fin 16, hexD[d.val]? = some (hx d.val) := by decide +kernel
theorem idx_hx : ∀ d : Fin 16, indexByte hexD (hx d.val) = (d.val : Int) := by decide +kernel
theorem idx_range (c : UInt8) : indexByte hexD c = -1 ∨ ∃ d : Nat, d < 16 ∧ indexByte hexD c = (d : Int) ∧ c = hx d := by
  have h0 := indexByte_ge hexD c
  by_cases h : indexByte hexD c = -1
  · exact .inl h
  · obtain ⟨d, hd⟩ : ∃ d : Nat, indexByte hexD c = (d : Int) := ⟨(indexByte hexD c).toNat, by omega⟩
    have h1 := (indexByte_some hd).1
    have hlt : d < 16 := (List.getElem?_eq_some_iff.1 h1).1
    have := hexD_at ⟨d, hlt⟩
    dsimp only at this
    rw [h1] at this
    exact .inr ⟨d, hlt, hd, by injection this⟩
theorem hx_inj : ∀ a b : Fin 16, hx a.val = hx b.val → a.val = b.val := by decide +kernel
theorem hx_ne : ∀ a : Fin 16, hx a.val ≠ 34 ∧ hx a.val ≠ 92 := by decide +kernel

/- ### The program's: from the first sign on, up to a quote -/
/-- Behind i bytes acc has been read of what l quotes, if it quotes anything. -/
def UIn (l : List UInt8) (i : Nat) (acc : List UInt8) : Prop :=
  ∀ L0 : List It, (∀ x ∈ L0, x.ok) → l = 34 :: (srcs L0 ++ [34]) → ∃ L : List It, (∀ x ∈ L, x.ok) ∧ l.drop i = srcs L ++ [34] ∧ tgts L0 = acc ++ tgts L
theorem UIn.start (l : List UInt8) : UIn l 1 [] := fun L0 h e => ⟨L0, h, by rw [e]; rfl, rfl⟩
theorem drop_cons {l : List UInt8} {i : Nat} {c : UInt8} (h : l[i]? = some c) : l.drop i = c :: l.drop (i + 1) := by
  obtain ⟨hl, rfl⟩ := List.getElem?_eq_some_iff.1 h
  exact List.drop_eq_getElem_cons hl
theorem UIn.end {l : List UInt8} {i : Nat} {acc : List UInt8} (h : UIn l i acc) (hc : l[i]? = some 34) (L0 : List It) (hok : ∀ x ∈ L0, x.ok) (e : l = 34 :: (srcs L0 ++ [34])) : tgts L0 = acc := by
  obtain ⟨L, hL, hd, ht⟩ := h L0 hok e
  rw [drop_cons hc] at hd
  cases L with
  | nil => rw [ht, tgts_nil, List.append_nil]
  | cons x L =>
    exfalso
    have hx := hL x (by simp)
    rw [srcs_cons] at hd
    cases x with
    | byte b => simp only [It.src, List.cons_append, List.nil_append, List.cons.injEq] at hd; exact hx.1 hd.1.symm
    | esc c => simp only [It.src, List.cons_append, List.nil_append, List.cons.injEq] at hd; exact absurd hd.1 (by decide)
    | num r => simp only [It.src, List.cons_append, List.cons.injEq] at hd; exact absurd hd.1 (by decide)
theorem UIn.none {l : List UInt8} {i : Nat} {acc : List UInt8} (h : UIn l i acc) (hi : l.length ≤ i) (L0 : List It) (hok : ∀ x ∈ L0, x.ok) : l ≠ 34 :: (srcs L0 ++ [34]) := by
  intro e
  obtain ⟨L, _, hd, _⟩ := h L0 hok e
  rw [List.drop_eq_nil_of_le hi] at hd
  cases hs : srcs L <;> rw [hs] at hd <;> cases hd
theorem UIn.byte {l : List UInt8} {i : Nat} {acc : List UInt8} (h : UIn l i acc) {c : UInt8} (hc : l[i]? = some c) (h1 : c ≠ 34) (h2 : c ≠ 92) : UIn l (i + 1) (acc ++ [c]) := by
  intro L0 hok e
  obtain ⟨L, hL, hd, ht⟩ := h L0 hok e
  rw [drop_cons hc] at hd
  cases L with
  | nil => simp only [srcs_nil, List.nil_append, List.cons.injEq] at hd; exact absurd hd.1 h1
  | cons x L =>
    rw [srcs_cons] at hd
    cases x with
    | byte b =>
      simp only [It.src, List.cons_append, List.nil_append, List.cons.injEq] at hd
      obtain ⟨rfl, hd⟩ := hd
      exact ⟨L, fun x hx => hL x (by simp [hx]), hd, by rw [ht, tgts_cons]; simp [It.tgt]⟩
    | esc c => simp only [It.src, List.cons_append, List.nil_append, List.cons.injEq] at hd; exact absurd hd.1 h2
    | num r => simp only [It.src, List.cons_append, List.cons.injEq] at hd; exact absurd hd.1 h2
/-- What is told of a text that begins with a backslash: the rune, and how many bytes it takes; none of what is no item. -/
def Esc (t : List UInt8) (r : Int) (n : Nat) : Prop :=
  0 ≤ r ∧ r ≤ 65535 ∧ n ≤ t.length ∧ n ≤ 6 ∧ (n = 0 ∨ (encodeRune r).length ≤ n) ∧ (∀ c u, (c = 34 ∨ c = 92) → t = 92 :: c :: u → r = (c.toNat : Int) ∧ n = 2) ∧ (∀ q u, q < 160 → t = 92 :: 117 :: (hexL q ++ u) → r = (q : Int) ∧ n = 6)
theorem UIn.esc {l : List UInt8} {i : Nat} {acc : List UInt8} (h : UIn l i acc) (hc : l[i]? = some 92) {r : Int} {n : Nat} (hE : Esc (l.drop i) r n) : UIn l (i + n) (acc ++ encodeRune r) := by
  obtain ⟨r0, r1, _, _, _, e1, e2⟩ := hE
  intro L0 hok e
  obtain ⟨L, hL, hd, ht⟩ := h L0 hok e
  have hd2 := hd
  rw [drop_cons hc] at hd
  cases L with
  | nil => simp only [srcs_nil, List.nil_append, List.cons.injEq] at hd; exact absurd hd.1 (by decide)
  | cons x L =>
    have hx := hL x (by simp)
    rw [srcs_cons] at hd hd2
    cases x with
    | byte b => simp only [It.src, List.cons_append, List.nil_append, List.cons.injEq] at hd; exact absurd hd.1.symm hx.2
    | esc c =>
      obtain ⟨rfl, rfl⟩ := e1 c (srcs L ++ [34]) hx (by rw [hd2]; simp [It.src])
      refine ⟨L, fun x hx => hL x (by simp [hx]), ?_, ?_⟩
      · rw [← List.drop_drop, hd2]; simp [It.src]
      · rw [ht, tgts_cons]
        rcases hx with rfl | rfl
        · rw [show ((34 : UInt8).toNat : Int) = ((34 : Nat) : Int) from rfl, encode_byte 34 (by decide)]; simp [It.tgt]
        · rw [show ((92 : UInt8).toNat : Int) = ((92 : Nat) : Int) from rfl, encode_byte 92 (by decide)]; simp [It.tgt]
    | num q =>
      obtain ⟨rfl, rfl⟩ := e2 q (srcs L ++ [34]) hx (by rw [hd2]; simp [It.src])
      refine ⟨L, fun x hx => hL x (by simp [hx]), ?_, ?_⟩
      · rw [← List.drop_drop, hd2]; simp [It.src, hexL]
      · rw [ht, tgts_cons]; simp [It.tgt]
/-- A backslash that begins no item: nothing is quoted. -/
theorem UIn.bad {l : List UInt8} {i : Nat} {acc : List UInt8} (h : UIn l i acc) (hc : l[i]? = some 92) {r : Int} (hE : Esc (l.drop i) r 0) (L0 : List It) (hok : ∀ x ∈ L0, x.ok) : l ≠ 34 :: (srcs L0 ++ [34]) := by
  obtain ⟨r0, r1, _, _, _, e1, e2⟩ := hE
  intro e
  obtain ⟨L, hL, hd, ht⟩ := h L0 hok e
  have hd2 := hd
  rw [drop_cons hc] at hd
  cases L with
  | nil => simp only [srcs_nil, List.nil_append, List.cons.injEq] at hd; exact absurd hd.1 (by decide)
  | cons x L =>
    have hx := hL x (by simp)
    rw [srcs_cons] at hd hd2
    cases x with
    | byte b => simp only [It.src, List.cons_append, List.nil_append, List.cons.injEq] at hd; exact absurd hd.1.symm hx.2
    | esc c => exact absurd (e1 c (srcs L ++ [34]) hx (by rw [hd2]; simp [It.src])).2 (by decide)
    | num q => exact absurd (e2 q (srcs L ++ [34]) hx (by rw [hd2]; simp [It.src])).2 (by decide)

/- ### The four digits of a number: the value behind k of them -/
def digsV : List Nat → Nat := fun l => l.foldl (fun a d => a * 16 + d) 0
theorem digsV_snoc (l : List Nat) (d : Nat) : digsV (l ++ [d]) = digsV l * 16 + d := by simp [digsV]
theorem digs_fold : ∀ (l : List Nat) (a : Nat), (∀ d ∈ l, d < 16) → l.foldl (fun a d => a * 16 + d) a + 1 ≤ (a + 1) * 16 ^ l.length
  | [], a, _ => by simp
  | d :: l, a, h => by
    have h1 := digs_fold l (a * 16 + d) (fun x hx => h x (by simp [hx]))
    have h2 := h d (by simp)
    have h3 : (a * 16 + d + 1) * 16 ^ l.length ≤ ((a + 1) * 16) * 16 ^ l.length := Nat.mul_le_mul_right _ (by omega)
    rw [List.foldl_cons, List.length_cons, Nat.pow_succ, Nat.mul_comm (16 ^ l.length) 16, ← Nat.mul_assoc]
    omega
theorem digsV_lt (l : List Nat) (h : ∀ d ∈ l, d < 16) : digsV l < 16 ^ l.length := by
  have := digs_fold l 0 h
  unfold digsV; omega
/-- k digits have been read behind two bytes: they are D. -/
def Digs (t : List UInt8) (k : Nat) (D : List Nat) : Prop := D.length = k ∧ (∀ d ∈ D, d < 16) ∧ ∀ j d, D[j]? = some d → t[2 + j]? = some (hx d)
theorem Digs.start (t : List UInt8) : Digs t 0 [] := ⟨rfl, by simp, by simp⟩
theorem Digs.next {t : List UInt8} {k : Nat} {D : List Nat} (h : Digs t k D) {d : Nat} (hd : d < 16) (hc : t[2 + k]? = some (hx d)) : Digs t (k + 1) (D ++ [d]) := by
  obtain ⟨h1, h2, h3⟩ := h
  refine ⟨by simp [h1], ?_, ?_⟩
  · intro x hx
    rcases List.mem_append.1 hx with hx | hx
    · exact h2 x hx
    · simp at hx; omega
  · intro j x hj
    by_cases hl : j < k
    · rw [List.getElem?_append_left (by omega)] at hj; exact h3 j x hj
    · rw [List.getElem?_append_right (by omega), h1] at hj
      have h0 : j - k = 0 := by
        have := (List.getElem?_eq_some_iff.1 hj).1
        simp at this; omega
      rw [h0] at hj
      simp at hj
      subst hj
      rw [show j = k by omega]; exact hc
theorem Digs.lt {t : List UInt8} {k : Nat} {D : List Nat} (h : Digs t k D) (hk : k ≤ 4) : digsV D < 65536 ∧ (k < 4 → digsV D < 4096) := by
  have h1 := digsV_lt D h.2.1
  rw [h.1] at h1
  have : k = 0 ∨ k = 1 ∨ k = 2 ∨ k = 3 ∨ k = 4 := by omega
  rcases this with rfl | rfl | rfl | rfl | rfl <;> (constructor <;> intros <;> omega)
theorem Digs.four {t : List UInt8} {D : List Nat} (h : Digs t 4 D) (q : Nat) (hq : q < 160) (u : List UInt8) (e : t = 92 :: 117 :: (hexL q ++ u)) : digsV D = q := by
  obtain ⟨h1, h2, h3⟩ := h
  match D, h1 with
  | [a, b, c, d], _ =>
    have i0 := h3 0 a rfl
    have i1 := h3 1 b rfl
    have i2 := h3 2 c rfl
    have i3 := h3 3 d rfl
    rw [e] at i0 i1 i2 i3
    simp only [hexL, List.cons_append, List.nil_append] at i0 i1 i2 i3
    injection i0 with i0; injection i1 with i1; injection i2 with i2; injection i3 with i3
    have j0 := hx_inj ⟨_, Nat.mod_lt (q / 4096) (by decide : 16 > 0)⟩ ⟨a, h2 a (by simp)⟩ i0
    have j1 := hx_inj ⟨_, Nat.mod_lt (q / 256) (by decide : 16 > 0)⟩ ⟨b, h2 b (by simp)⟩ i1
    have j2 := hx_inj ⟨_, Nat.mod_lt (q / 16) (by decide : 16 > 0)⟩ ⟨c, h2 c (by simp)⟩ i2
    have j3 := hx_inj ⟨_, Nat.mod_lt q (by decide : 16 > 0)⟩ ⟨d, h2 d (by simp)⟩ i3
    dsimp only at j0 j1 j2 j3
    show (((0 * 16 + a) * 16 + b) * 16 + c) * 16 + d = q
    omega
/-- A byte that is no digit among the four: no number stands there. -/
theorem no_digit {t : List UInt8} {k : Nat} (hk : k < 4) {c : UInt8} (hc : t[2 + k]? = some c) (hn : ∀ d, d < 16 → c ≠ hx d) (q : Nat) (u : List UInt8) : t ≠ 92 :: 117 :: (hexL q ++ u) := by
  intro e
  rw [e] at hc
  have : k = 0 ∨ k = 1 ∨ k = 2 ∨ k = 3 := by omega
  rcases this with rfl | rfl | rfl | rfl
  all_goals
    simp only [hexL, List.cons_append, List.nil_append] at hc
    injection hc with hc
    exact hn _ (Nat.mod_lt _ (by decide)) hc.symm

/- ### The document's own: what stands between the two quotes -/
def BIn (l : List UInt8) (i : Nat) (acc : List UInt8) : Prop :=
  ∀ L0 : List It, (∀ x ∈ L0, x.ok) → l = srcs L0 → ∃ L : List It, (∀ x ∈ L, x.ok) ∧ l.drop i = srcs L ∧ tgts L0 = acc ++ tgts L
theorem BIn.start (l : List UInt8) : BIn l 0 [] := fun L0 h e => ⟨L0, h, by rw [e]; rfl, rfl⟩
theorem srcs_ne (x : It) (L : List It) : srcs (x :: L) ≠ [] := by
  rw [srcs_cons]; cases x <;> simp [It.src]
theorem BIn.end {l : List UInt8} {i : Nat} {acc : List UInt8} (h : BIn l i acc) (hi : l.length ≤ i) (L0 : List It) (hok : ∀ x ∈ L0, x.ok) (e : l = srcs L0) : tgts L0 = acc := by
  obtain ⟨L, hL, hd, ht⟩ := h L0 hok e
  rw [List.drop_eq_nil_of_le hi] at hd
  cases L with
  | nil => rw [ht, tgts_nil, List.append_nil]
  | cons x L => exact absurd hd.symm (srcs_ne x L)
theorem BIn.byte {l : List UInt8} {i : Nat} {acc : List UInt8} (h : BIn l i acc) {c : UInt8} (hc : l[i]? = some c) (h2 : c ≠ 92) : BIn l (i + 1) (acc ++ [c]) := by
  intro L0 hok e
  obtain ⟨L, hL, hd, ht⟩ := h L0 hok e
  rw [drop_cons hc] at hd
  cases L with
  | nil => cases hd
  | cons x L =>
    rw [srcs_cons] at hd
    cases x with
    | byte b =>
      simp only [It.src, List.cons_append, List.nil_append, List.cons.injEq] at hd
      obtain ⟨rfl, hd⟩ := hd
      exact ⟨L, fun x hx => hL x (by simp [hx]), hd, by rw [ht, tgts_cons]; simp [It.tgt]⟩
    | esc c => simp only [It.src, List.cons_append, List.nil_append, List.cons.injEq] at hd; exact absurd hd.1 h2
    | num r => simp only [It.src, List.cons_append, List.cons.injEq] at hd; exact absurd hd.1 h2
/-- A backslash: a sign behind it, or four digits. -/
theorem BIn.two {l : List UInt8} {i : Nat} {acc : List UInt8} (h : BIn l i acc) (hc : l[i]? = some 92) (L0 : List It) (hok : ∀ x ∈ L0, x.ok) (e : l = srcs L0) :
    ∃ L : List It, (∀ x ∈ L, x.ok) ∧ ((∃ c, (c = 34 ∨ c = 92) ∧ l.drop i = 92 :: c :: srcs L ∧ tgts L0 = acc ++ c :: tgts L) ∨ (∃ q, q < 160 ∧ l.drop i = 92 :: 117 :: (hexL q ++ srcs L) ∧ tgts L0 = acc ++ (encodeRune (q : Int) ++ tgts L))) := by
  obtain ⟨L, hL, hd, ht⟩ := h L0 hok e
  have hd2 := hd
  rw [drop_cons hc] at hd
  cases L with
  | nil => cases hd
  | cons x L =>
    have hx := hL x (by simp)
    rw [srcs_cons] at hd hd2
    refine ⟨L, fun x hx => hL x (by simp [hx]), ?_⟩
    cases x with
    | byte b => simp only [It.src, List.cons_append, List.nil_append, List.cons.injEq] at hd; exact absurd hd.1.symm hx.2
    | esc c => exact .inl ⟨c, hx, by rw [hd2]; simp [It.src], by rw [ht, tgts_cons]; simp [It.tgt]⟩
    | num q => exact .inr ⟨q, hx, by rw [hd2]; simp [It.src], by rw [ht, tgts_cons]; simp [It.tgt]⟩
theorem BIn.short {l : List UInt8} {i : Nat} {acc : List UInt8} (h : BIn l i acc) (hc : l[i]? = some 92) (hi : l.length ≤ i + 1) (L0 : List It) (hok : ∀ x ∈ L0, x.ok) : l ≠ srcs L0 := by
  intro e
  obtain ⟨L, _, ⟨c, _, hd, _⟩ | ⟨q, _, hd, _⟩⟩ := h.two hc L0 hok e
  · have := congrArg List.length hd; rw [List.length_drop] at this; simp at this; omega
  · have := congrArg List.length hd; rw [List.length_drop] at this; simp at this; omega
theorem BIn.esc {l : List UInt8} {i : Nat} {acc : List UInt8} (h : BIn l i acc) (hc : l[i]? = some 92) {c : UInt8} (h1 : l[i + 1]? = some c) (hu : c ≠ 117) : BIn l (i + 2) (acc ++ [c]) := by
  intro L0 hok e
  obtain ⟨L, hL, ⟨d, _, hd, ht⟩ | ⟨q, _, hd, _⟩⟩ := h.two hc L0 hok e
  · have hd2 := hd
    rw [drop_cons hc, drop_cons h1] at hd
    simp only [List.cons.injEq, true_and] at hd
    obtain ⟨rfl, hd⟩ := hd
    exact ⟨L, hL, hd, by rw [ht]; simp⟩
  · rw [drop_cons hc, drop_cons h1] at hd
    simp only [List.cons.injEq, true_and] at hd
    exact absurd hd.1 hu
theorem BIn.shorter {l : List UInt8} {i : Nat} {acc : List UInt8} (h : BIn l i acc) (hc : l[i]? = some 92) (h1 : l[i + 1]? = some 117) (hi : l.length ≤ i + 5) (L0 : List It) (hok : ∀ x ∈ L0, x.ok) : l ≠ srcs L0 := by
  intro e
  obtain ⟨L, _, ⟨c, hcc, hd, _⟩ | ⟨q, _, hd, _⟩⟩ := h.two hc L0 hok e
  · rw [drop_cons hc, drop_cons h1] at hd
    simp only [List.cons.injEq, true_and] at hd
    rw [← hd.1] at hcc
    rcases hcc with hcc | hcc <;> exact absurd hcc (by decide)
  · have := congrArg List.length hd; rw [List.length_drop] at this; simp [hexL_len] at this; omega
theorem BIn.num {l : List UInt8} {i : Nat} {acc : List UInt8} (h : BIn l i acc) (hc : l[i]? = some 92) (h1 : l[i + 1]? = some 117) {D : List Nat} (hD : Digs (l.drop i) 4 D) {B : List UInt8} (hB : digsV D < 160 → B = encodeRune (digsV D : Int)) : BIn l (i + 6) (acc ++ B) := by
  intro L0 hok e
  obtain ⟨L, hL, ⟨d, hdd, hd, ht⟩ | ⟨q, hq, hd, ht⟩⟩ := h.two hc L0 hok e
  · rw [drop_cons hc, drop_cons h1] at hd
    simp only [List.cons.injEq, true_and] at hd
    rw [← hd.1] at hdd
    rcases hdd with hdd | hdd <;> exact absurd hdd (by decide)
  · have hv := hD.four q hq _ hd
    refine ⟨L, hL, ?_, ?_⟩
    · rw [← List.drop_drop, hd]; simp [hexL]
    · rw [ht, hB (by omega), hv]; simp
theorem BIn.bad {l : List UInt8} {i : Nat} {acc : List UInt8} (h : BIn l i acc) (hc : l[i]? = some 92) (h1 : l[i + 1]? = some 117) {k : Nat} (hk : k < 4) {c : UInt8} (hk2 : (l.drop i)[2 + k]? = some c) (hn : ∀ d, d < 16 → c ≠ hx d) (L0 : List It) (hok : ∀ x ∈ L0, x.ok) : l ≠ srcs L0 := by
  intro e
  obtain ⟨L, hL, ⟨d, hdd, hd, ht⟩ | ⟨q, hq, hd, ht⟩⟩ := h.two hc L0 hok e
  · rw [drop_cons hc, drop_cons h1] at hd
    simp only [List.cons.injEq, true_and] at hd
    rw [← hd.1] at hdd
    rcases hdd with hdd | hdd <;> exact absurd hdd (by decide)
  · exact no_digit hk hk2 hn q _ hd
end
section
open Go.RowKit Go.Lib

theorem shl_or (v d : Nat) (hv : v < 4096) (hd : d < 16) : bits .or .i64 ((v : Int) * 16) (d : Int) = (v : Int) * 16 + (d : Int) :=
  bits_join .i64 63 (by decide) (fun n h0 h1 => by rw [IntKind.wrap_i64]; omega) 4 _ _ (by omega) (by omega) (by omega) (by omega) (by omega) (by omega)
theorem esc_none {l : List UInt8} (h1 : hasPrefix l [92, 34] = false) (h2 : hasPrefix l [92, 92] = false) (h : ∀ q u, q < 160 → l ≠ 92 :: 117 :: (hexL q ++ u)) : Esc l 0 0 := by
  refine ⟨by decide, by decide, Nat.zero_le _, by decide, .inl rfl, ?_, fun q u hq e => absurd e (h q u hq)⟩
  rintro c u (rfl | rfl) rfl
  · simp [hasPrefix, List.isPrefixOf] at h1
  · simp [hasPrefix, List.isPrefixOf] at h2
theorem esc_sign {l u : List UInt8} {c : UInt8} (hc : c = 34 ∨ c = 92) (h : l = 92 :: c :: u) : Esc l (c.toNat : Int) 2 := by
  have h8 := c.toNat_lt
  refine ⟨by omega, by omega, by rw [h]; simp, by decide, .inr ?_, ?_, ?_⟩
  · rw [encode_byte c.toNat (by rcases hc with rfl | rfl <;> decide)]; simp
  · rintro d v hd e
    rw [h] at e
    injection e with _ e; injection e with e _
    rw [e]; exact ⟨rfl, rfl⟩
  · rintro q v hq e
    rw [h] at e
    injection e with _ e; injection e with e _
    rw [e] at hc
    rcases hc with hc | hc <;> exact absurd hc (by decide)
theorem esc_num {l u : List UInt8} (h : l = 92 :: 117 :: u) (h6 : 6 ≤ l.length) {D : List Nat} (hD : Digs l 4 D) : Esc l (digsV D : Int) 6 := by
  have hl := (hD.lt (by decide)).1
  refine ⟨by omega, by omega, h6, by decide, .inr (Nat.le_trans (enc_four _) (by decide)), ?_, ?_⟩
  · rintro d v hd e
    rw [h] at e
    injection e with _ e; injection e with e _
    rw [← e] at hd
    rcases hd with hd | hd <;> exact absurd hd (by decide)
  · rintro q v hq e
    rw [hD.four q hq v e]; exact ⟨rfl, rfl⟩
theorem wrap32_byte (c : UInt8) : wrap32 (c.toNat : Int) = (c.toNat : Int) := by
  have := c.toNat_lt
  unfold wrap32; omega
theorem pre_two {l : List UInt8} {a b : UInt8} (h : hasPrefix l [a, b] = true) : ∃ u, l = a :: b :: u := by
  match l, h with
  | x :: y :: u, h =>
    simp only [hasPrefix, List.isPrefixOf, Bool.and_eq_true, beq_iff_eq] at h
    exact ⟨u, by rw [h.1, h.2.1]⟩
  | [x], h => simp [hasPrefix, List.isPrefixOf] at h
  | [], h => simp [hasPrefix, List.isPrefixOf] at h
def SomeEsc (l : List UInt8) (e : Ending) : Prop := ∃ r n, e = .returned (.tuple #[.int .i32 r, .int .i64 (n : Nat)]) ∧ Esc l r n
set_option maxHeartbeats 4000000 in
set_option maxRecDepth 100000 in
theorem escaped_any (t : ByteArray) (w : World) (hs : t.size ≤ 1099511627776) :
    Calls Tryd.prog 103 #[.string t] w fun e w' => SomeEsc t.data.toList e ∧ w = w' := by
  obtain ⟨l, hl⟩ : ∃ l, t.data.toList = l := ⟨_, rfl⟩
  have c1 := fun w => hasPrefix_any t ⟨#[92, 34]⟩ w
  have c2 := fun w => hasPrefix_any t ⟨#[92, 92]⟩ w
  have c3 := fun w => hasPrefix_any t ⟨#[92, 117]⟩ w
  have hsz : l.length = t.size := by rw [← hl]; exact size_list t
  have hg : ∀ (i : Nat) (h : i < t.size), l[i]? = some t[i] := fun i h => by
    rw [← hl, List.getElem?_eq_getElem (by rw [size_list]; exact h)]; rfl
  simp only [hl] at c1
  simp only [hl] at c2
  simp only [hl] at c3
  rw [hl]
  have HG := Lib.hid hg
  have HSZ := Lib.hid hsz
  clear hl hg hsz
  have hsign : ∀ c : UInt8, (c = 34 ∨ c = 92) → hasPrefix l [92, c] = true → ∃ h : 1 < t.size, Esc l (t[1].toNat : Int) 2 := by
    intro c hc hp
    obtain ⟨u, hu⟩ := pre_two hp
    have hlt : 1 < t.size := by rw [← HSZ.out, hu]; simp
    refine ⟨hlt, ?_⟩
    have := HG.out 1 hlt
    rw [hu] at this
    injection this with this
    rw [← this]
    exact esc_sign hc hu
  cases h1 : hasPrefix l [92, 34] with
  | true =>
    obtain ⟨hlt, hE⟩ := hsign 34 (.inl rfl) h1
    simp only [h1] at c1
    have HE := Lib.hid hE
    have hltz : (1 : Int) < (t.size : Int) := by omega
    clear hsign h1 c2 c3 hE
    go_enter Tryd.func103, Tryd.ntmps103
    go_wp2_with fail
    refine (c1 _).mono ?_
    rintro e w1 ⟨rfl, rfl⟩
    go_wp2_with fail
    go_ret2
    exact ⟨⟨_, 2, rfl, by rw [wrap32_byte]; exact HE.out⟩, rfl⟩
  | false =>
    cases h2 : hasPrefix l [92, 92] with
    | true =>
      obtain ⟨hlt, hE⟩ := hsign 92 (.inr rfl) h2
      simp only [h1] at c1
      simp only [h2] at c2
      have HE := Lib.hid hE
      have hltz : (1 : Int) < (t.size : Int) := by omega
      clear hsign h1 h2 c3 hE
      go_enter Tryd.func103, Tryd.ntmps103
      go_wp2_with fail
      refine (c1 _).mono ?_
      rintro e w1 ⟨rfl, rfl⟩
      go_wp2_with fail
      refine (c2 _).mono ?_
      rintro e w2 ⟨rfl, rfl⟩
      go_wp2_with fail
      go_ret2
      exact ⟨⟨_, 2, rfl, by rw [wrap32_byte]; exact HE.out⟩, rfl⟩
    | false =>
      have hN := Lib.hid (esc_none h1 h2)
      simp only [h1] at c1
      simp only [h2] at c2
      clear hsign h1 h2
      cases h3 : hasPrefix l [92, 117] with
      | false =>
        have hE := hN.out (fun q u hq e => by rw [e] at h3; simp [hasPrefix, List.isPrefixOf] at h3)
        have HE := Lib.hid hE
        simp only [h3] at c3
        clear h3 hE
        go_enter Tryd.func103, Tryd.ntmps103
        go_wp2_with fail
        refine (c1 _).mono ?_
        rintro e w1 ⟨rfl, rfl⟩
        go_wp2_with fail
        refine (c2 _).mono ?_
        rintro e w2 ⟨rfl, rfl⟩
        go_wp2_with fail
        refine (c3 _).mono ?_
        rintro e w3 ⟨rfl, rfl⟩
        go_wp2_with fail
        go_ret2
        exact ⟨⟨0, 0, rfl, HE.out⟩, rfl⟩
      | true =>
        obtain ⟨u, hu⟩ := pre_two h3
        simp only [h3] at c3
        clear h3
        by_cases h6 : t.size < 6
        · have hE := hN.out (fun q v hq e => by
            have := congrArg List.length e
            rw [HSZ.out] at this
            simp [hexL_len] at this; omega)
          have HE := Lib.hid hE
          clear hE hu
          have hz : (t.size : Int) < 6 := by omega
          go_enter Tryd.func103, Tryd.ntmps103
          go_wp2_with fail
          refine (c1 _).mono ?_
          rintro e w1 ⟨rfl, rfl⟩
          go_wp2_with fail
          refine (c2 _).mono ?_
          rintro e w2 ⟨rfl, rfl⟩
          go_wp2_with fail
          refine (c3 _).mono ?_
          rintro e w3 ⟨rfl, rfl⟩
          go_wp2_with fail
          go_ret2
          exact ⟨⟨0, 0, rfl, HE.out⟩, rfl⟩
        · have hz : ¬ (t.size : Int) < 6 := by omega
          have HU := Lib.hid hu
          clear hu
          go_enter Tryd.func103, Tryd.ntmps103
          go_wp2_with fail
          refine (c1 _).mono ?_
          rintro e w1 ⟨rfl, rfl⟩
          go_wp2_with fail
          refine (c2 _).mono ?_
          rintro e w2 ⟨rfl, rfl⟩
          go_wp2_with fail
          refine (c3 _).mono ?_
          rintro e w3 ⟨rfl, rfl⟩
          go_wp2_with fail
          go_loop [4, 5] (fun rv iv => ∃ (k : Nat) (D : List Nat), k ≤ 4 ∧ Digs l k D ∧ rv = .int .i64 (digsV D : Int) ∧ iv = .int .i64 (2 + (k : Int))) (fun _ iv => (6 - Go.RowKit.intOf iv).toNat)
          case atStart => exact ⟨0, [], by omega, Digs.start l, rfl, rfl⟩
          case round =>
            obtain ⟨k, D, hk, hD, rfl, rfl⟩ := hrel
            have hlt := hD.lt hk
            have HD := Lib.hid hD
            clear hD c1 c2 c3
            by_cases h4 : k < 4
            · have hin : 2 + k < t.size := by omega
              have hc := HG.out (2 + k) hin
              have hv := hlt.2 h4
              have cI := fun w => indexByte_any ⟨#[48, 49, 50, 51, 52, 53, 54, 55, 56, 57, 97, 98, 99, 100, 101, 102]⟩ (t[2 + k].toNat : Int) w
              have hcs : ((t[2 + k].toNat : Int)).toNat.toUInt8 = t[2 + k] := by simp
              simp only [hcs] at cI
              have hi0 := idx_range t[2 + k]
              rcases hi0 with hi0 | ⟨d, hd, hi0, hcd⟩
              · have hE := hN.out (fun q v hq => no_digit h4 hc (fun d hd e => by
                  rw [e, idx_hx ⟨d, hd⟩] at hi0
                  dsimp only at hi0; omega) q v)
                have HE := Lib.hid hE
                have hi : indexByte [48, 49, 50, 51, 52, 53, 54, 55, 56, 57, 97, 98, 99, 100, 101, 102] t[2 + k] = -1 := hi0
                simp only [hi] at cI
                clear hE hc hcs hi hi0
                go_wp2_with fail
                refine (cI _).mono ?_
                rintro e w4 ⟨rfl, rfl⟩
                go_wp2_with fail
                go_ret2
                exact ⟨⟨0, 0, rfl, HE.out⟩, rfl⟩
              · have hn := HD.out.next hd (by rw [hc, hcd])
                have HN := Lib.hid hn
                have hi : indexByte [48, 49, 50, 51, 52, 53, 54, 55, 56, 57, 97, 98, 99, 100, 101, 102] t[2 + k] = (d : Int) := hi0
                simp only [hi] at cI
                have hor := shl_or (digsV D) d hv hd
                have hvs := digsV_snoc D d
                clear hcd hc hcs hi hi0 hn
                go_wp2_with fail
                refine (cI _).mono ?_
                rintro e w4 ⟨rfl, rfl⟩
                go_wp2_with fail
                go_round
                case rel => exact ⟨k + 1, _, by omega, HN.out, by rw [hvs]; go_num, by go_num⟩
                case measure => simp [Go.RowKit.intOf]; omega
            · obtain rfl : k = 4 := by omega
              have hE := esc_num HU.out (by rw [HSZ.out]; omega) HD.out
              have HE := Lib.hid hE
              have hlo := hlt.1
              clear hE
              go_wp2_with fail
              go_ret2
              exact ⟨⟨_, 6, rfl, HE.out⟩, rfl⟩
end
end Go.Proofs.YtfcigknalnmhcaaDoor
