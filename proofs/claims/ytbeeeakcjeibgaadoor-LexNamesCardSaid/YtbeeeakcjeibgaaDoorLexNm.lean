/- The contracts of lex.Word, lex.Name, the document's own Reserved, Name: both answer alike. -/
import Derived.Test.YtbeeeakcjeibgaaDoorLexRL
import Derived.Test.YtbeeeakcjeibgaaDoorLexEq
namespace Go.Proofs.YtbeeeakcjeibgaaDoor
open Go.RowKit

def words : List ByteArray := [⟨#[116, 114, 117, 101]⟩, ⟨#[102, 97, 108, 115, 101]⟩, ⟨#[105, 102]⟩, ⟨#[108, 101, 110]⟩, ⟨#[99, 97, 116]⟩, ⟨#[99, 117, 116]⟩, ⟨#[104, 97, 115]⟩, ⟨#[117, 112]⟩]
theorem neT {s c : ByteArray} (h : s ≠ c) : (s.toList == c.toList) = false := by
  rw [← beq_toListBytes]
  cases hb : (s == c) with
  | false => rfl
  | true => exact absurd ((beqB s c).1 hb) h
theorem neL {s c : ByteArray} {l : List UInt8} (h : s ≠ c) (hl : c.toList = l) : (s.toList == l) = false := by rw [← hl]; exact neT h
set_option maxHeartbeats 2000000 in
set_option maxRecDepth 100000 in
theorem word_any (s : ByteArray) (B : Bool) (hB : B = true ↔ s ∈ words) (w : World) : Calls Tryd.prog 30 #[.string s] w fun e w' => e = .returned (.bool B) ∧ w' = w := by
  by_cases h : s ∈ words
  · obtain rfl := hB.2 h
    clear hB
    unfold words at h
    simp only [List.mem_cons, List.not_mem_nil, or_false] at h
    rcases h with rfl | rfl | rfl | rfl | rfl | rfl | rfl | rfl
    all_goals
      go_enter Tryd.func30, Tryd.ntmps30
      go_wp2
      go_ret
      exact ⟨rfl, rfl⟩
  · obtain rfl : B = false := by
      cases B with
      | false => rfl
      | true => exact absurd (hB.1 rfl) h
    clear hB
    unfold words at h
    simp only [List.mem_cons, List.not_mem_nil, or_false, not_or] at h
    obtain ⟨h1, h2, h3, h4, h5, h6, h7, h8⟩ := h
    have a1 := neL h1 (show _ = [116, 114, 117, 101] by decide +kernel)
    have a2 := neL h2 (show _ = [102, 97, 108, 115, 101] by decide +kernel)
    have a3 := neL h3 (show _ = [105, 102] by decide +kernel)
    have a4 := neL h4 (show _ = [108, 101, 110] by decide +kernel)
    have a5 := neL h5 (show _ = [99, 97, 116] by decide +kernel)
    have a6 := neL h6 (show _ = [99, 117, 116] by decide +kernel)
    have a7 := neL h7 (show _ = [104, 97, 115] by decide +kernel)
    have a8 := neL h8 (show _ = [117, 112] by decide +kernel)
    have b1 := neT h1
    have b2 := neT h2
    have b3 := neT h3
    have b4 := neT h4
    have b5 := neT h5
    have b6 := neT h6
    have b7 := neT h7
    have b8 := neT h8
    clear h1 h2 h3 h4 h5 h6 h7 h8
    go_enter Tryd.func30, Tryd.ntmps30
    go_wp2
    go_ret
    exact ⟨rfl, rfl⟩
set_option maxHeartbeats 2000000 in
set_option maxRecDepth 100000 in
theorem reserved_any (s : ByteArray) (B : Bool) (hB : B = true ↔ s ∈ words) (w : World) : Calls Tryd.prog 31 #[.string s] w fun e w' => e = .returned (.bool B) ∧ Below w.heap.size w w' := by
  have hb := below_alloc w (.cells (words.map Value.string).toArray 9)
  have hcell : ∀ j c, words[j]? = some c → (w.alloc (.cells (words.map Value.string).toArray 9)).cell? ⟨w.heap.size, j, none⟩ = some (.string c) := by
    intro j c hc
    rw [cells_of_alloc]
    simp [hc]
  obtain ⟨w0, hw0⟩ : ∃ w0, w.alloc (.cells (words.map Value.string).toArray 9) = w0 := ⟨_, rfl⟩
  rw [hw0] at hb hcell
  have hw0' : w.alloc (.cells #[.string ⟨#[116, 114, 117, 101]⟩, .string ⟨#[102, 97, 108, 115, 101]⟩, .string ⟨#[105, 102]⟩, .string ⟨#[108, 101, 110]⟩, .string ⟨#[99, 97, 116]⟩, .string ⟨#[99, 117, 116]⟩, .string ⟨#[104, 97, 115]⟩, .string ⟨#[117, 112]⟩] 9) = w0 := hw0
  have HC := Lib.hid hcell
  have HB := Lib.hid hb
  have HBB := Lib.hid hB
  clear hcell hb hw0 hB
  go_enter Tryd.func31, Tryd.ntmps31
  go_wp2_with fail
  go_loopg [4] (8) (fun n iv wr => ∃ i : Nat, i + n = 8 ∧ iv = .int .i64 (i : Int) ∧ wr = w0 ∧ Hid (∀ j c, j < i → words[j]? = some c → s ≠ c))
  case atStart => exact ⟨0, rfl, rfl, rfl, Lib.hid (fun j c h => absurd h (Nat.not_lt_zero j))⟩
  case round =>
    obtain ⟨i, hi, rfl, rfl, HJ⟩ := hrel
    by_cases hlt : i < 8
    · have hiz : (i : Int) < 8 := by omega
      obtain ⟨c, hc⟩ : ∃ c, words[i]? = some c := ⟨_, List.getElem?_eq_getElem (show i < words.length from hlt)⟩
      have hcl := HC.out i c hc
      have HI := Lib.hid hi
      by_cases hsc : c = s
      · have ht : B = true := HBB.out.2 (hsc ▸ List.mem_of_getElem? hc)
        have HT := Lib.hid ht
        have hq : (c.toList == s.toList) = true := by rw [hsc]; exact beq_self_eq_true _
        clear ht hc hsc
        go_wp2_with fail
        go_ret
        exact ⟨by rw [HT.out]; rfl, HB.out⟩
      · have hq : (c.toList == s.toList) = false := neT hsc
        have hnx : ∀ j d, j < i + 1 → words[j]? = some d → s ≠ d := by
          intro j d hj hd
          rcases Nat.lt_or_eq_of_le (Nat.le_of_lt_succ hj) with h | h
          · exact HJ.out j d h hd
          · subst h
            rw [hc] at hd
            injection hd with hd
            subst hd
            exact fun e => hsc e.symm
        have HNX := Lib.hid hnx
        clear hnx hc hsc
        go_wp2_with fail
        go_roundg (gk - 1)
        case measure => have := HI.out; omega
        case rel => exact ⟨i + 1, by have := HI.out; omega, by go_num, rfl, HNX⟩
    · have hiz : ¬ (i : Int) < 8 := by omega
      have hf : B = false := by
        refine Bool.eq_false_iff.2 fun hm => ?_
        obtain ⟨j, hj⟩ := List.getElem?_of_mem (HBB.out.1 hm)
        have hl := (List.getElem?_eq_some_iff.1 hj).1
        have hl8 : words.length = 8 := rfl
        exact HJ.out j s (by omega) hj rfl
      have HF := Lib.hid hf
      clear hf
      go_wp2_with fail
      go_ret
      exact ⟨by rw [HF.out]; rfl, HB.out⟩
end Go.Proofs.YtbeeeakcjeibgaaDoor
