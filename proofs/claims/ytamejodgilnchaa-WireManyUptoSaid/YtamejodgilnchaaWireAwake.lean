/- What the laws of the wire share: things put behind nothing; the chapter's example is true. -/
import Derived.Test.YtamejodgilnchaaReadText
namespace Go.Proofs.Ytamejodgilnchaa
open Go.RowKit

theorem ex_put : putI (-1) = [1] := by
  unfold putI
  rw [show uz (-1) = 1 by decide, enc_low (by decide)]
  rfl
theorem ex_one : stI ([2, 128, 0], false) = (1, ([128, 0], false)) := by decide
theorem ex_two : stI ([128, 0], false) = (0, ([], true)) := by decide
theorem ex_bs (w : World) (t : TypeId) (z : Nat × Nat) : Bs (w.alloc (.cells #[.int .u8 2, .int .u8 128, .int .u8 0] t z)) (some ⟨w.heap.size, 0, none⟩) [2, 128, 0] := by
  refine fun _ => ⟨_, 0, rfl, fun j hj => ?_⟩
  rw [Nat.zero_add, cell_of_row _ _ j _ t z (heap_alloc_new w _)]
  simp only [List.length_cons, List.length_nil] at hj
  have : j = 0 ∨ j = 1 ∨ j = 2 := by omega
  rcases this with rfl | rfl | rfl <;> rfl
theorem ex_new (w : World) (t : TypeId) (z : Nat × Nat) :
    Calls Try.prog 18 #[.slice (some ⟨w.heap.size, 0, none⟩) 3 3] (w.alloc (.cells #[.int .u8 2, .int .u8 128, .int .u8 0] t z)) (Made (w.alloc (.cells #[.int .u8 2, .int .u8 128, .int .u8 0] t z)) [2, 128, 0]) :=
  new_any _ [2, 128, 0] 3 _ (by simp) (ex_bs w t z) (fun h => by cases h)
theorem ex_int (w : World) : Calls Try.prog 10 #[.slice none 0 0, .int .i64 (-1)] w (OwnBytes w [1]) := by
  have c := putint_any none [] 0 (-1) w (by simp) (by simp) (Bs.nil _ _) (by decide) (by decide)
  rw [List.nil_append, ex_put] at c
  exact c

theorem put_nil (v : Int) (w : World) (h0 : -9223372036854775808 ≤ v) (h1 : v ≤ 9223372036854775807) : Calls Try.prog 10 #[.slice none 0 0, .int .i64 v] w (OwnBytes w (putI v)) := by
  have c := putint_any none [] 0 v w (by simp) (by simp) (Bs.nil _ _) h0 h1
  rw [List.nil_append] at c
  exact c
theorem text_nil (s : ByteArray) (w : World) (hs : s.size ≤ 140737488351232) : Calls Try.prog 12 #[.slice none 0 0, .string s] w (OwnBytes w (putT s.data.toList)) := by
  have hsz : s.size = s.data.toList.length := by simp
  have c := puttext_any none [] 0 s w (by simp; omega) (by simp) (Bs.nil _ _)
  rw [List.nil_append] at c
  exact c
theorem bool_nil (t : Bool) (w : World) : Calls Try.prog 11 #[.slice none 0 0, .bool t] w (OwnBytes w (putB t)) := by
  have c := putbool_any none [] 0 t w (by simp) (by simp) (Bs.nil _ _)
  rw [List.nil_append] at c
  exact c
theorem own_cap {B : Nat} {w : World} {A : Option Addr} {n cap : Nat} {xs : List Value} {e : TypeId} (h : w.ownsRow B e 1 (.slice A n cap) n xs) : n ≤ cap := by
  rcases h.2 with ⟨e1, rfl⟩ | ⟨g, c, cur, e1, _, _, hc, _⟩
  · exact Nat.zero_le _
  · injection e1 with _ _ e1; omega

set_option maxHeartbeats 400000 in
theorem awake_any (w : World) : Calls Try.prog 16 #[] w fun e w' => e = .returned (.bool true) ∧ Below w.heap.size w w' := by
  go_enter Try.func16, Try.ntmps16
  go_wp2_with fail
  refine (ex_new w _ _).mono ?_
  rintro e w1 ⟨g, rfl, hR1, hb1⟩
  go_wp2_with fail
  refine (ex_int w1).mono ?_
  rintro e w2 ⟨A, cap, rfl, hB2, _, _, hb2⟩
  have ks : (convert 22 9 (.slice A 1 cap)).run Try.prog w2 = .ok (.string ⟨#[1]⟩) w2 := run_str_of (P := Try.prog) (w := w2) 22 9 5 cap Try.underlying22 Try.underlying5 Try.underlying9 hB2
  have hR2 := hR1.below hb2 (Nat.le_refl _)
  have hB0 : Below w.heap.size w w2 := (((Below.refl _ _).alloc (Nat.le_refl _) _).trans (hb1.mono (by simp))).trans (hb2.mono (by have := hb1.size; simp at this; omega))
  have hg : w.heap.size ≤ g := by have := hR1.1; simp at this; omega
  have HB0 := Lib.hid hB0
  have HG := Lib.hid hg
  clear hB2 hb1 hb2 hB0 hR1 hg
  have hi1 := int_any _ g _ w2 hR2
  rw [ex_one] at hi1
  go_wp2_with fail
  refine hi1.mono ?_
  rintro e w3 ⟨rfl, hR3, hO3⟩
  have hi2 := int_any _ g _ w3 hR3
  rw [ex_two] at hi2
  clear hi1 ks
  go_wp2_with fail
  refine hi2.mono ?_
  rintro e w4 ⟨rfl, hR4, hO4⟩
  have hok := ok_any _ g _ w4 hR4
  have hle := left_any _ g _ w4 hR4
  have hen := end_any _ g _ w4 hR4
  clear hi2
  go_wp2_with fail
  refine hok.mono ?_
  rintro e w5 ⟨rfl, rfl⟩
  go_wp2_with fail
  refine hle.mono ?_
  rintro e w5 ⟨rfl, rfl⟩
  go_wp2_with fail
  refine hen.mono ?_
  rintro e w5 ⟨rfl, rfl⟩
  go_wp2
  go_ret
  exact ⟨rfl, (HB0.out.trans (hO3.below HG.out)).trans (hO4.below HG.out)⟩
end Go.Proofs.Ytamejodgilnchaa
