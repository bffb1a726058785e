/- Contracts of Reader's Left, Fail. -/
import Derived.Test.YtpkbjiakjofcnaaFReader
namespace Go.Proofs.Ytpkbjiakjofcnaa
open Go.RowKit

theorem left_any (N g : Nat) (s : St) (w : World) (h : Rd N w g s) :
    Calls Try.prog 37 #[.pointer (some ⟨g, 0, none⟩)] w fun e w' => e = .returned (.int .i64 (s.1.length : Int)) ∧ w = w' := by
  obtain ⟨A, cap, c0, c1, f0, f1, _, _⟩ := h.cells
  have hl := h.len
  clear h
  go_enter Try.func37, Try.ntmps37
  go_wp2
  go_ret
  exact ⟨rfl, rfl⟩
theorem fail_any (N g : Nat) (s : St) (w : World) (h : Rd N w g s) :
    Calls Try.prog 45 #[.pointer (some ⟨g, 0, none⟩)] w (Left N w g (.tuple #[]) ([], true)) := by
  obtain ⟨A, cap, c0, c1, f0, f1, _, _⟩ := h.cells
  have HR := Lib.hid h
  clear h
  go_enter Try.func45, Try.ntmps45
  go_wp2
  go_end0
  exact ⟨rfl, HR.out.fail, ((Only.refl _ _).setCell 0 _).setCell 1 _⟩
end Go.Proofs.Ytpkbjiakjofcnaa
