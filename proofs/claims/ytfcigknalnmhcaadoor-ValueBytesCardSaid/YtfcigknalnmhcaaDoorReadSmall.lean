/- Contracts of Reader's Left, Ok, End, Fail. -/
import Derived.Test.YtfcigknalnmhcaaDoorReader
namespace Go.Proofs.YtfcigknalnmhcaaDoor
open Go.RowKit

theorem left_any (N g : Nat) (s : St) (w : World) (h : Rd N w g s) :
    Calls Tryd.prog 40 #[.pointer (some ⟨g, 0, none⟩)] w fun e w' => e = .returned (.int .i64 (s.1.length : Int)) ∧ w = w' := by
  obtain ⟨A, cap, c0, c1, f0, f1, _, _⟩ := h.cells
  have hl := h.len
  clear h
  go_enter Tryd.func40, Tryd.ntmps40
  go_wp2
  go_ret
  exact ⟨rfl, rfl⟩
theorem ok_any (N g : Nat) (s : St) (w : World) (h : Rd N w g s) :
    Calls Tryd.prog 39 #[.pointer (some ⟨g, 0, none⟩)] w fun e w' => e = .returned (.bool (!s.2)) ∧ w = w' := by
  obtain ⟨A, cap, c0, c1, f0, f1, _, _⟩ := h.cells
  clear h
  generalize s.2 = b at *
  go_enter Tryd.func39, Tryd.ntmps39
  go_wp2
  go_ret
  exact ⟨rfl, rfl⟩
theorem fail_any (N g : Nat) (s : St) (w : World) (h : Rd N w g s) :
    Calls Tryd.prog 68 #[.pointer (some ⟨g, 0, none⟩)] w (Left N w g (.tuple #[]) ([], true)) := by
  obtain ⟨A, cap, c0, c1, f0, f1, _, _⟩ := h.cells
  have HR := Lib.hid h
  clear h
  go_enter Tryd.func68, Tryd.ntmps68
  go_wp2
  go_end0
  exact ⟨rfl, HR.out.fail, ((Only.refl _ _).setCell 0 _).setCell 1 _⟩
theorem end_any (N g : Nat) (s : St) (w : World) (h : Rd N w g s) :
    Calls Tryd.prog 37 #[.pointer (some ⟨g, 0, none⟩)] w fun e w' => e = .returned (.bool (!s.2 && s.1.length == 0)) ∧ w = w' := by
  have hok := ok_any N g s w h
  have hle := left_any N g s w h
  have hl := h.len
  clear h
  generalize s.1.length = n at *
  cases hb : s.2
  · rw [hb] at hok
    clear hb
    by_cases hn : n = 0
    · subst hn
      go_enter Tryd.func37, Tryd.ntmps37
      go_wp2_with fail
      refine hok.mono ?_
      rintro e w' ⟨rfl, rfl⟩
      go_wp2_with fail
      refine hle.mono ?_
      rintro e w' ⟨rfl, rfl⟩
      go_wp2
      go_ret
      exact ⟨rfl, rfl⟩
    · have hn2 : (n == 0) = false := by simpa using hn
      have hn3 : ((n : Int) == 0) = false := by simp; omega
      go_enter Tryd.func37, Tryd.ntmps37
      go_wp2_with fail
      refine hok.mono ?_
      rintro e w' ⟨rfl, rfl⟩
      go_wp2_with fail
      refine hle.mono ?_
      rintro e w' ⟨rfl, rfl⟩
      go_wp2
      go_ret
      rw [hn2]
      exact ⟨rfl, rfl⟩
  · rw [hb] at hok
    clear hb
    go_enter Tryd.func37, Tryd.ntmps37
    go_wp2_with fail
    refine hok.mono ?_
    rintro e w' ⟨rfl, rfl⟩
    go_wp2
    go_ret
    exact ⟨rfl, rfl⟩
end Go.Proofs.YtfcigknalnmhcaaDoor
