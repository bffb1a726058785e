/- Plain mathematics: which value a text may be the text of. No program stands in this text. -/
import Derived.Test.YtfcigknalnmhcaaDoorVEsc
import Derived.Test.YtfcigknalnmhcaaDoorVReadP
namespace Go.Proofs.YtfcigknalnmhcaaDoor
open Go.RowKit Go.Lib

/-- A text is how a value that may be is shown. -/
def Shown (l : List UInt8) (K n : Int) (u : List UInt8) : Prop := checkB K n u = true ∧ showL K n u = l ∧ -9223372036854775808 ≤ n ∧ n ≤ 9223372036854775807
def Only (l : List UInt8) (K n : Int) (u : List UInt8) : Prop := ∀ K' n' u', Shown l K' n' u' → K' = K ∧ n' = n ∧ u' = u
/-- What is read of a text. -/
def ReadEnd (l : List UInt8) (v : Value) : Prop :=
  (∃ K n, ∃ s : ByteArray, Shown l K n s.data.toList ∧ v = .tuple #[V3 K n s, .bool true]) ∨ ((∀ K n u, ¬ Shown l K n u) ∧ v = .tuple #[V3 0 0 ⟨#[]⟩, .bool false])
theorem readEnd_of {l : List UInt8} {K n : Int} {u : ByteArray} (hO : Only l K n u.data.toList) (n0 : -9223372036854775808 ≤ n) (n1 : n ≤ 9223372036854775807) : ReadEnd l (readV l K n u) := by
  unfold readV
  by_cases h : checkB K n u.data.toList = true ∧ showL K n u.data.toList = l
  · rw [if_pos h]; exact .inl ⟨K, n, u, ⟨h.1, h.2, n0, n1⟩, rfl⟩
  · rw [if_neg h]
    refine .inr ⟨fun K' n' u' hS => ?_, rfl⟩
    obtain ⟨rfl, rfl, rfl⟩ := hO K' n' u' hS
    exact h ⟨hS.1, hS.2.1⟩
/-- What is shown is shown of one value alone. -/
theorem Shown.only {l : List UInt8} {K n : Int} {u : List UInt8} (h : Shown l K n u) : Only l K n u := by
  intro K' n' u' h'
  obtain ⟨h1, h2, h3, h4⟩ := h
  obtain ⟨g1, g2, g3, g4⟩ := h'
  exact show_inj K' n' u' K n u g3 g4 h3 h4 g1 h1 (g2.trans h2.symm)
theorem shown_dash : Shown [45] 0 0 [] := ⟨rfl, rfl, by decide, by decide⟩
theorem shown_truth (b : Bool) : Shown (if b = true then [116, 114, 117, 101] else [102, 97, 108, 115, 101]) 2 (b01 b) [] := by
  cases b
  · exact ⟨rfl, rfl, by decide, by decide⟩
  · exact ⟨rfl, rfl, by decide, by decide⟩
/-- The five ways in which a text may be one's. -/
theorem Shown.ways {l : List UInt8} {K n : Int} {u : List UInt8} (h : Shown l K n u) :
    (K = 0 ∧ n = 0 ∧ u = [] ∧ l = [45]) ∨ (K = 1 ∧ u = [] ∧ l = itoa n) ∨ (K = 2 ∧ u = [] ∧ ((n = 1 ∧ l = [116, 114, 117, 101]) ∨ (n = 0 ∧ l = [102, 97, 108, 115, 101]))) ∨ (K = 3 ∧ n = 0 ∧ validL u = true ∧ countL u ≤ 100 ∧ l = quoteL u) ∨ (K = 4 ∧ 1 ≤ n ∧ n ≤ 4 ∧ u = [] ∧ l = 35 :: itoa n) := by
  obtain ⟨h1, h2, h3, h4⟩ := h
  rcases check_kind h1 with ⟨rfl, rfl, rfl⟩ | ⟨rfl, rfl⟩ | ⟨rfl, hn, rfl⟩ | ⟨rfl, rfl, hv, hc⟩ | ⟨rfl, hn, hn2, rfl⟩
  · exact .inl ⟨rfl, rfl, rfl, h2.symm⟩
  · exact .inr (.inl ⟨rfl, rfl, h2.symm⟩)
  · rcases hn with rfl | rfl
    · exact .inr (.inr (.inl ⟨rfl, rfl, .inr ⟨rfl, h2.symm⟩⟩))
    · exact .inr (.inr (.inl ⟨rfl, rfl, .inl ⟨rfl, h2.symm⟩⟩))
  · exact .inr (.inr (.inr (.inl ⟨rfl, rfl, hv, hc, h2.symm⟩)))
  · exact .inr (.inr (.inr (.inr ⟨rfl, hn, hn2, rfl, h2.symm⟩)))
/-- A quoted text's items. -/
theorem quote_srcs {u : List UInt8} (hv : validL u = true) : ∃ L : List It, (∀ x ∈ L, x.ok) ∧ quoteL u = 34 :: (srcs L ++ [34]) ∧ tgts L = u := by
  obtain ⟨L, h1, h2, h3⟩ := quote_items u hv
  exact ⟨L, h1, by unfold quoteL; rw [h2], h3⟩
theorem itoa_first (n : Int) {c : UInt8} {r : List UInt8} (h : itoa n = c :: r) : c.toNat = 45 ∨ (48 ≤ c.toNat ∧ c.toNat ≤ 57) := by
  obtain ⟨d, q, hd, hh⟩ := itoa_head n
  rw [hd] at h
  injection h with h _
  subst h
  rcases hh with ⟨h, _⟩ | ⟨h1, h2, _⟩
  · exact .inl h
  · exact .inr ⟨h1, h2⟩
/-- A text that begins with a quote. -/
theorem only_quote {r : List UInt8} {T : List UInt8} (h : ∀ L0 : List It, (∀ x ∈ L0, x.ok) → 34 :: r = 34 :: (srcs L0 ++ [34]) → T = tgts L0) : Only (34 :: r) 3 0 T := by
  intro K n u hS
  rcases hS.ways with ⟨_, _, _, e⟩ | ⟨_, _, e⟩ | ⟨_, _, ⟨_, e⟩ | ⟨_, e⟩⟩ | ⟨rfl, rfl, hv, _, e⟩ | ⟨_, _, _, _, e⟩
  · injection e with e; exact absurd e (by decide)
  · rcases itoa_first n e.symm with h | ⟨h, _⟩ <;> exact absurd h (by decide)
  · injection e with e; exact absurd e (by decide)
  · injection e with e; exact absurd e (by decide)
  · obtain ⟨L, h1, h2, h3⟩ := quote_srcs hv
    exact ⟨rfl, rfl, by rw [h L h1 (e.trans h2), h3]⟩
  · injection e with e; exact absurd e (by decide)
/-- A text that begins with a hash. -/
theorem only_hash {r : List UInt8} {m : Int} (h : ∀ z : Int, 1 ≤ z → z ≤ 4 → r = itoa z → m = z) : Only (35 :: r) 4 m [] := by
  intro K n u hS
  rcases hS.ways with ⟨_, _, _, e⟩ | ⟨_, _, e⟩ | ⟨_, _, ⟨_, e⟩ | ⟨_, e⟩⟩ | ⟨_, _, _, _, e⟩ | ⟨rfl, h1, h2, rfl, e⟩
  · injection e with e; exact absurd e (by decide)
  · rcases itoa_first n e.symm with h | ⟨h, _⟩ <;> exact absurd h (by decide)
  · injection e with e; exact absurd e (by decide)
  · injection e with e; exact absurd e (by decide)
  · injection e with e; exact absurd e (by decide)
  · injection e with _ e
    exact ⟨rfl, (h n h1 h2 e).symm, rfl⟩
/-- Any other text: a number's, or nobody's. -/
theorem only_num {l : List UInt8} {m : Int} (h1 : l ≠ [45]) (h2 : l ≠ [116, 114, 117, 101]) (h3 : l ≠ [102, 97, 108, 115, 101]) (h4 : hasPrefix l [34] = false) (h5 : hasPrefix l [35] = false)
    (h : ∀ z : Int, -9223372036854775808 ≤ z → z ≤ 9223372036854775807 → l = itoa z → m = z) : Only l 1 m [] := by
  intro K n u hS
  have hS2 := hS
  rcases hS.ways with ⟨_, _, _, e⟩ | ⟨rfl, rfl, e⟩ | ⟨_, _, ⟨_, e⟩ | ⟨_, e⟩⟩ | ⟨_, _, _, _, e⟩ | ⟨_, _, _, _, e⟩
  · exact absurd e h1
  · exact ⟨rfl, (h n hS2.2.2.1 hS2.2.2.2 e).symm, rfl⟩
  · exact absurd e h2
  · exact absurd e h3
  · rw [e] at h4; simp [hasPrefix, List.isPrefixOf, quoteL] at h4
  · rw [e] at h5; simp [hasPrefix, List.isPrefixOf] at h5
end Go.Proofs.YtfcigknalnmhcaaDoor
