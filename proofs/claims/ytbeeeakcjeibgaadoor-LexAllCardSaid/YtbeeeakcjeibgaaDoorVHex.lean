/- Plain mathematics: the three ways in which a rune is quoted, as the document's own Quote writes them. -/
import Derived.Test.YtbeeeakcjeibgaaDoorVShow
namespace Go.Proofs.YtbeeeakcjeibgaaDoor
open Go.Lib

theorem one_hex : ∀ d : Fin 16, (⟨#[48, 49, 50, 51, 52, 53, 54, 55, 56, 57, 97, 98, 99, 100, 101, 102]⟩ : ByteArray).extract d.val (d.val + 1) = ⟨#[hx d.val]⟩ := by decide +kernel
theorem quoteR_sign {r : Nat} (h : r = 34 ∨ r = 92) : quoteR r = 92 :: encodeRune (r : Int) := by
  unfold quoteR
  rw [if_pos h, encode_byte r (by omega)]
theorem quoteR_ctrl {r : Nat} (h1 : ¬ (r = 34 ∨ r = 92)) (h2 : Ctrl r) : quoteR r = [92, 117, 48, 48, hx (r / 16), hx (r % 16)] := by
  unfold quoteR
  rw [if_neg h1, if_pos h2]
  unfold Ctrl at h2
  unfold hexL
  rw [show r / 4096 % 16 = 0 by omega, show r / 256 % 16 = 0 by omega, show r / 16 % 16 = r / 16 by omega]
  rfl
theorem quoteR_else {r : Nat} (h1 : ¬ (r = 34 ∨ r = 92)) (h2 : ¬ Ctrl r) : quoteR r = encodeRune (r : Int) := by
  unfold quoteR
  rw [if_neg h1, if_neg h2]
/-- The bytes of a piece of runes are its rune's. -/
theorem piece_rune (l : List UInt8) (hv : validL l = true) : ∀ x ∈ pcs l, x.2 = encodeRune (x.1 : Int) := by
  induction l using pcs_induct with
  | h0 => intro x hx; rw [pcs_nil] at hx; simp at hx
  | h1 l hne ih =>
    have hv0 := hv
    unfold validL at hv
    rw [pcs_step l hne, List.all_cons, Bool.and_eq_true] at hv
    intro x hx
    rw [pcs_step l hne] at hx
    rcases List.mem_cons.1 hx with rfl | hx
    · refine (encode_decode l hne ?_).symm
      intro hc
      have := hv.1
      rw [decide_eq_true ((bad_iff l hne).2 hc)] at this
      simp at this
    · exact ih hv.2 x hx
theorem piece_scalar (l : List UInt8) : ∀ x ∈ pcs l, Scalar (x.1 : Int) := by
  induction l using pcs_induct with
  | h0 => intro x hx; rw [pcs_nil] at hx; simp at hx
  | h1 l hne ih =>
    intro x hx
    rw [pcs_step l hne] at hx
    rcases List.mem_cons.1 hx with rfl | hx
    · exact scalar_of l
    · exact ih x hx
theorem enc_four (r : Nat) : (encodeRune (r : Int)).length ≤ 4 := by
  have := encodeRuneZ_length (r : Int); unfold encodeRune; rw [List.length_map]; exact this.2
/-- A quoted text's middle, piece by piece. -/
theorem quoteM_take (l : List UInt8) (k : Nat) (x : Pc) (h : (pcs l)[k]? = some x) : ((pcs l).take (k + 1)).flatMap (fun x => quoteR x.1) = ((pcs l).take k).flatMap (fun x => quoteR x.1) ++ quoteR x.1 := by
  rw [List.take_add_one, h]; simp
end Go.Proofs.YtbeeeakcjeibgaaDoor
