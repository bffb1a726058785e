/- The contract of the document's own reader's End. -/
import Derived.Test.YtindkpfmflcibaaGreatDoorWC
namespace Go.Proofs.YtindkpfmflcibaaGreatDoor
open Go.RowKit

theorem refend_any (g : Nat) (s : St) (w : World) (h : RR w g s) :
    Calls Tryz.prog 66 #[.pointer (some ⟨g, 0, none⟩)] w fun e w' => e = .returned (.bool (!s.2 && s.1.length == 0)) ∧ ∃ n, w' = w.drewN n := by
  obtain ⟨L, b⟩ := s
  obtain ⟨A, C, cap, at_, h1, h2⟩ := h
  obtain ⟨c0, c1, c2, f1, f2⟩ := h1.cells
  obtain ⟨_, _, hlc, hl, hat⟩ := h1
  simp only at h2 c2
  cases b with
  | true =>
    go_enter Tryz.func66, Tryz.ntmps66
    go_wp2_with fail
    go_quiet (fail)
    go_wp2_with fail
    go_ret
    exact ⟨rfl, _, rfl⟩
  | false =>
    rw [if_neg (by decide)] at h2
    have hlen : L.length = C.length - at_ := by rw [h2, List.length_drop]
    have hq : ((at_ : Int) == (C.length : Int)) = (L.length == 0) := by
      rw [Bool.eq_iff_iff, beq_iff_eq, beq_iff_eq]; omega
    have HL := Lib.hid hq
    clear h2 hlen hq
    go_enter Tryz.func66, Tryz.ntmps66
    go_wp2_with fail
    go_quiet (fail)
    go_wp2_with fail
    go_ret
    exact ⟨ret_boolR HL.out, _, rfl⟩
end Go.Proofs.YtindkpfmflcibaaGreatDoor
