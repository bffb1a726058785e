/- The laws' own awake: the chapter's examples are true. -/
import Derived.Test.YtbeeeakcjeibgaaDoorLexX
import Derived.KernelRfl
namespace Go.Proofs.YtbeeeakcjeibgaaDoor
open Go.RowKit

theorem lex_one : lexL [195, 169, 43, 49] = .ok [⟨3, [195, 169], 0, 0⟩, ⟨4, [43], 0, 2⟩, ⟨1, [], 1, 3⟩] := by
  unfold lexL
  rw [show pcs [195, 169, 43, 49] = [(233, [195, 169]), (43, [43]), (49, [49])] by decide +kernel]
  rw [lexR_some _ _ _ (by decide +kernel) ⟨3, [195, 169], 0, 0⟩ (by kernel_rfl)]
  simp only [List.drop_zero, List.take_zero]
  rw [lexR_some _ _ _ (by decide +kernel) ⟨4, [43], 0, 0⟩ (by kernel_rfl)]
  simp only [List.drop_zero, List.take_zero]
  rw [lexR_some _ _ _ (by decide +kernel) ⟨1, [], 1, 0⟩ (by kernel_rfl)]
  simp only [List.drop_zero, List.take_zero]
  rw [lexR_nil]
  rfl
theorem lex_two : lexL [49, 32, 194, 167] = .error 2 := by
  unfold lexL
  rw [show pcs [49, 32, 194, 167] = [(49, [49]), (32, [32]), (167, [194, 167])] by decide +kernel]
  rw [lexR_some _ _ _ (by decide +kernel) ⟨1, [], 1, 0⟩ (by kernel_rfl)]
  simp only [List.drop_zero, List.take_zero]
  rw [lexR_blank _ _ _ (by decide +kernel), lexR_none _ _ _ (by decide +kernel) (by kernel_rfl)]
  rfl

/-- What Lex tells of a formula that has tokens; of one that has none. -/
theorem lex_yes (s : ByteArray) (ts : List Tk) (w : World) (hs : s.size ≤ 400) (h : lexL s.data.toList = .ok ts) (hE : Env7 w) :
    Calls Tryd.prog 10 #[.string s] w fun e w' => Below w.heap.size w w' ∧ ∃ ao cap, e = .returned (.tuple #[.slice ao (ts.length + 1 : Nat) cap, .int .i64 0, .int .i64 0]) ∧ ts.length + 1 ≤ cap ∧ TkAt w' ao (ts ++ [endT s.size]) := by
  refine (lex_any s w (by omega) hE).mono ?_
  rintro e w' ⟨h1, h2⟩
  rw [if_neg (by omega), h] at h2
  exact ⟨h1, h2⟩
theorem lex_no (s : ByteArray) (p : Nat) (w : World) (hs : s.size ≤ 400) (h : lexL s.data.toList = .error p) (hE : Env7 w) :
    Calls Tryd.prog 10 #[.string s] w fun e w' => Below w.heap.size w w' ∧ e = .returned (.tuple #[.slice none 0 0, .int .i64 (p : Int), .int .i64 5]) := by
  refine (lex_any s w (by omega) hE).mono ?_
  rintro e w' ⟨h1, h2⟩
  rw [if_neg (by omega), h] at h2
  exact ⟨h1, h2⟩
theorem lex_deep (s : ByteArray) (w : World) (hs : s.size ≤ 1099511627776) (h : 400 < s.size) (hE : Env7 w) :
    Calls Tryd.prog 10 #[.string s] w fun e w' => Below w.heap.size w w' ∧ e = .returned (.tuple #[.slice none 0 0, .int .i64 400, .int .i64 7]) := by
  refine (lex_any s w hs hE).mono ?_
  rintro e w' ⟨h1, h2⟩
  rw [if_pos h] at h2
  exact ⟨h1, h2⟩
set_option maxHeartbeats 2000000 in
set_option maxRecDepth 100000 in
theorem awake_any (w : World) (hE : Env7 w) : Calls Tryd.prog 9 #[] w fun e w' => e = .returned (.bool true) ∧ Below w.heap.size w w' := by
  have c1 := lex_yes ⟨#[195, 169, 43, 49]⟩ _ w (by decide) lex_one hE
  have c2 := fun w hE => lex_no ⟨#[49, 32, 194, 167]⟩ _ w (by decide) lex_two hE
  go_enter Tryd.func9, Tryd.ntmps9
  go_wp2_with fail
  refine c1.mono ?_
  rintro e w1 ⟨b1, ao, cap, rfl, hcap, hTk⟩
  have hE1 := hE.later b1
  clear c1
  go_wp2_with fail
  refine (c2 _ hE1).mono ?_
  rintro e w2 ⟨b2, rfl⟩
  obtain ⟨g, rfl, hg, hc⟩ := hTk.later b2 (by simp)
  have z0 := (hc 0 _ rfl).1
  have z1 := (hc 1 _ rfl).2.2.2
  have z2 := (hc 2 _ rfl).2.2.1
  have z3 := (hc 3 _ rfl).2.2.2
  simp only [Nat.zero_mul, Nat.one_mul, Nat.reduceMul, Nat.reduceAdd] at z0 z1 z2 z3
  clear c2 hc hTk
  go_wp2
  go_ret
  exact ⟨rfl, below_to b1 b2⟩
end Go.Proofs.YtbeeeakcjeibgaaDoor
