/- Plain mathematics: what is shown of a value that may be consists of runes, none of which turns a line; a quote begins it if it is a text, and only then. -/
import Derived.Test.YtfcigknalnmhcaaDoorVShow
import Derived.Lib.ItoaLen
namespace Go.Proofs.YtfcigknalnmhcaaDoor
open Go.Lib

/-- Runes alone, none of them a control. -/
def CalmL (l : List UInt8) : Prop := ∀ x ∈ pcs l, ¬ bad x ∧ ¬ Ctrl x.1
theorem calm_valid {l : List UInt8} (h : CalmL l) : validL l = true := by
  unfold validL; rw [List.all_eq_true]; intro x hx; simp [(h x hx).1]
theorem calm_nil : CalmL [] := by intro x hx; rw [pcs_nil] at hx; simp at hx
theorem calm_append {a b : List UInt8} (ha : CalmL a) (hb : CalmL b) : CalmL (a ++ b) := by
  intro x hx
  rw [pcs_append a b (calm_valid ha)] at hx
  rcases List.mem_append.1 hx with h | h
  · exact ha x h
  · exact hb x h
theorem solid_not_bad {r : Nat} (hs : Solid (r, encodeRune (r : Int))) : ¬ bad (r, encodeRune (r : Int)) := by
  rintro ⟨h1, h2⟩
  dsimp only at h1 h2
  subst h1
  revert h2
  decide +kernel
theorem calm_rune {r : Nat} (h : Scalar (r : Int)) (hc : ¬ Ctrl r) : CalmL (encodeRune (r : Int)) := by
  have hs := solid_encode (r : Int) h
  rw [Int.toNat_natCast] at hs
  intro x hx
  have := pcs_cons_solid (r, encodeRune (r : Int)) [] hs
  rw [List.append_nil] at this
  rw [this, pcs_nil, List.mem_singleton] at hx
  subst hx
  exact ⟨solid_not_bad hs, hc⟩
theorem calm_byte (b : UInt8) (h : 32 ≤ b.toNat ∧ b.toNat < 127) : CalmL [b] := by
  have e := encode_byte b.toNat (by omega)
  rw [UInt8.ofNat_toNat] at e
  rw [← e]
  exact calm_rune (.inl ⟨by omega, by omega⟩) (by unfold Ctrl; omega)
theorem calm_ascii : ∀ (l : List UInt8), (∀ b ∈ l, 32 ≤ b.toNat ∧ b.toNat < 127) → CalmL l
  | [], _ => calm_nil
  | b :: l, h => calm_append (a := [b]) (calm_byte b (h b (by simp))) (calm_ascii l fun c hc => h c (by simp [hc]))
theorem hx_ascii : ∀ d : Fin 16, 32 ≤ (hx d.val).toNat ∧ (hx d.val).toNat < 127 := by decide +kernel
theorem calm_hex (r : Nat) : CalmL (hexL r) := by
  refine calm_ascii _ fun b hb => ?_
  unfold hexL at hb
  simp only [List.mem_cons, List.not_mem_nil, or_false] at hb
  rcases hb with rfl | rfl | rfl | rfl
  · exact hx_ascii ⟨_, Nat.mod_lt _ (by omega)⟩
  · exact hx_ascii ⟨_, Nat.mod_lt _ (by omega)⟩
  · exact hx_ascii ⟨_, Nat.mod_lt _ (by omega)⟩
  · exact hx_ascii ⟨_, Nat.mod_lt _ (by omega)⟩
theorem calm_quoteR {r : Nat} (h : Scalar (r : Int)) : CalmL (quoteR r) := by
  unfold quoteR
  split
  · rename_i h1
    rcases h1 with rfl | rfl
    · exact calm_ascii _ (by decide)
    · exact calm_ascii _ (by decide)
  · split
    · exact calm_append (a := [92, 117]) (calm_ascii _ (by decide)) (calm_hex r)
    · exact calm_rune h (by assumption)
theorem calm_quoteM (l : List UInt8) : CalmL (quoteM l) := by
  induction l using pcs_induct with
  | h0 => exact calm_nil
  | h1 l hne ih =>
    rw [quoteM_step l hne]
    exact calm_append (calm_quoteR (scalar_of l)) ih
theorem calm_quote (l : List UInt8) : CalmL (quoteL l) :=
  calm_append (a := [34]) (calm_ascii _ (by decide)) (calm_append (calm_quoteM l) (calm_ascii _ (by decide)))
theorem calm_itoa (n : Int) : CalmL (itoa n) := by
  have hd : ∀ u, CalmL (decDigits u) := fun u => calm_ascii _ fun b hb => by have := decDigits_digit u b hb; omega
  unfold itoa
  split
  · exact calm_append (a := [45]) (calm_ascii _ (by decide)) (hd _)
  · exact hd _
theorem calm_show (K n : Int) (s : List UInt8) : CalmL (showL K n s) := by
  unfold showL
  split
  · exact calm_itoa n
  split
  · split <;> exact calm_ascii _ (by decide)
  split
  · exact calm_quote s
  split
  · exact calm_append (a := [35]) (calm_ascii _ (by decide)) (calm_itoa n)
  · exact calm_ascii _ (by decide)
/-- What is shown begins with a quote if it is a text, and only then. -/
theorem show_head (K n : Int) (s : List UInt8) : ∃ c r, showL K n s = c :: r ∧ (c = 34 ↔ K = 3) := by
  unfold showL
  by_cases h1 : K = 1
  · rw [if_pos h1]
    obtain ⟨c, r, hc, h⟩ := itoa_head n
    refine ⟨c, r, hc, fun e => ?_, fun e => by omega⟩
    rw [e] at h
    exfalso
    rcases h with ⟨h, -⟩ | ⟨h, -, -⟩ <;> revert h <;> decide
  rw [if_neg h1]
  by_cases h2 : K = 2
  · rw [if_pos h2]
    split
    · exact ⟨_, _, rfl, fun e => absurd e (by decide), fun e => by omega⟩
    · exact ⟨_, _, rfl, fun e => absurd e (by decide), fun e => by omega⟩
  rw [if_neg h2]
  by_cases h3 : K = 3
  · rw [if_pos h3]; exact ⟨_, _, rfl, fun _ => h3, fun _ => rfl⟩
  rw [if_neg h3]
  split
  · exact ⟨_, _, rfl, fun e => absurd e (by decide), fun e => absurd e h3⟩
  · exact ⟨_, _, rfl, fun e => absurd e (by decide), fun e => absurd e h3⟩
/-- How long it can be. -/
theorem quoteRune_len (r : Nat) : (quoteR r).length ≤ 6 := by
  unfold quoteR
  split
  · simp
  split
  · simp [hexL_len]
  · have := encodeRuneZ_length (r : Int); unfold encodeRune; rw [List.length_map]; omega
theorem quoteMid_len (l : List UInt8) : (quoteM l).length ≤ 6 * l.length := by
  induction l using pcs_induct with
  | h0 => simp [quoteM_nil]
  | h1 l hne ih =>
    rw [quoteM_step l hne, List.length_append]
    have h1 := quoteRune_len (decodeL l).1
    have h2 := decodeL_width l
    have h3 : 0 < l.length := List.length_pos_iff.2 hne
    rw [List.length_drop] at ih
    omega
theorem showL_len (K n : Int) (s : List UInt8) (h0 : -9223372036854775808 ≤ n) (h1 : n ≤ 9223372036854775807) : (showL K n s).length ≤ 6 * s.length + 22 := by
  have hi := itoa_length_le n h0 h1
  have hq := quoteMid_len s
  unfold showL
  split
  · omega
  split
  · split <;> simp
  split
  · unfold quoteL; rw [List.length_cons, List.length_append, List.length_singleton]; omega
  split
  · rw [List.length_cons]; omega
  · simp
end Go.Proofs.YtfcigknalnmhcaaDoor
