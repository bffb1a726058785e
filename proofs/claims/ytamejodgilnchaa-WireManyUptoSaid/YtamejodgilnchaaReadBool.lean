/- Contract of Reader's Bool. -/
import Derived.Test.YtamejodgilnchaaReadSmall
import Derived.Outline
import Derived.Scope
import Derived.ScopeJumps
import Derived.FnLit
namespace Go.Proofs.Ytamejodgilnchaa
open Go.RowKit

/-- At the label: the frame, whatever its slots hold but the first. -/
def AtBool (g : Nat) (w : World) (a : Act) (w' : World) : Prop := w' = w ∧ ∃ u1 u2 u3 u4 u5 u6 u7 u8 u9 u10 u11 u12 u13 u14 u15 u16 u17 u18 u19 u20 u21 u22 u23 u24 u25 u26 u27 u28 u29 u30 u31 u32 u33 u34 u35 u36 : Value, a = { tmps := #[.pointer (some ⟨g, 0, none⟩), u1, u2, u3, u4, u5, u6, u7, u8, u9, u10, u11, u12, u13, u14, u15, u16, u17, u18, u19, u20, u21, u22, u23, u24, u25, u26, u27, u28, u29, u30, u31, u32, u33, u34, u35, u36], defers := [] }
theorem AtBool.mk {g : Nat} {w : World} {u1 u2 u3 u4 u5 u6 u7 u8 u9 u10 u11 u12 u13 u14 u15 u16 u17 u18 u19 u20 u21 u22 u23 u24 u25 u26 u27 u28 u29 u30 u31 u32 u33 u34 u35 u36 : Value} : AtBool g w { tmps := #[.pointer (some ⟨g, 0, none⟩), u1, u2, u3, u4, u5, u6, u7, u8, u9, u10, u11, u12, u13, u14, u15, u16, u17, u18, u19, u20, u21, u22, u23, u24, u25, u26, u27, u28, u29, u30, u31, u32, u33, u34, u35, u36], defers := [] } w := ⟨rfl, _, _, _, _, _, _, _, _, _, _, _, _, _, _, _, _, _, _, _, _, _, _, _, _, _, _, _, _, _, _, _, _, _, _, _, _, rfl⟩

theorem stB_nil (b : Bool) : stB ([], b) = (false, ([], true)) := rfl
theorem stB_bad {c : UInt8} {R : List UInt8} {b : Bool} (h : 1 < c.toNat) : stB (c :: R, b) = (false, ([], true)) := if_pos h
theorem stB_good {c : UInt8} {R : List UInt8} {b : Bool} (h : ¬ 1 < c.toNat) : stB (c :: R, b) = (c.toNat == 1, (R, b)) := if_neg h

set_option maxHeartbeats 400000 in
theorem bool_any (N g : Nat) (s : St) (w : World) (h : Rd N w g s) :
    Calls Try.prog 22 #[.pointer (some ⟨g, 0, none⟩)] w (Left N w g (.bool (stB s).1) (stB s).2) := by
  obtain ⟨A, cap, c0, c1, f0, f1, hlc, hB⟩ := h.cells
  have hf := fail_any N g s w h
  have hl := h.len
  obtain ⟨L, b⟩ := s
  simp only at *
  cases L with
  | nil =>
    have HR := Lib.hid h
    clear h hB
    rw [stB_nil]
    go_enter Try.func22, Try.ntmps22
    go_wp2_with fail
    refine wp_scope_jumps 0 (AtBool g w) (fun _ _ => 0) rfl ?_ ?_
    · go_wp2_with fail
      go_step3
      exact ⟨rfl, AtBool.mk⟩
    · rintro a' w' ⟨rfl, u1, u2, u3, u4, u5, u6, u7, u8, u9, u10, u11, u12, u13, u14, u15, u16, u17, u18, u19, u20, u21, u22, u23, u24, u25, u26, u27, u28, u29, u30, u31, u32, u33, u34, u35, u36, rfl⟩
      go_wp2_with fail
      refine hf.mono ?_
      rintro e w1 ⟨rfl, hR, hO⟩
      go_wp2_with fail
      simp only [Exit.jump]
      go_ret
      exact ⟨rfl, hR, hO⟩
  | cons c R =>
    obtain ⟨ab, off, rfl, hN, hc⟩ := hB (by simp)
    have hc0 := hc 0 (by simp)
    have hcut : BsN N w (if cap = 1 then some (⟨ab, off, none⟩ : Addr) else (some (⟨ab, off, none⟩ : Addr)).map (·.add 1)) R := BsN.drop hB 1 cap hlc
    have hb := byte_hi c
    simp only [List.getD_cons_zero, Nat.add_zero] at hc0
    have hlen : (c :: R).length = R.length + 1 := rfl
    rw [hlen] at c0 hl hlc
    have HR := Lib.hid h
    have HCUT := Lib.hid hcut
    clear h hB hc hcut hlen
    by_cases h1 : 1 < c.toNat
    · rw [stB_bad h1]
      have h1i : decide ((1 : Int) < (c.toNat : Int)) = true := by simp; omega
      go_enter Try.func22, Try.ntmps22
      go_wp2_with fail
      refine wp_scope_jumps 0 (AtBool g w) (fun _ _ => 0) rfl ?_ ?_
      · go_wp2_with fail
        go_step3
        exact ⟨rfl, AtBool.mk⟩
      · rintro a' w' ⟨rfl, u1, u2, u3, u4, u5, u6, u7, u8, u9, u10, u11, u12, u13, u14, u15, u16, u17, u18, u19, u20, u21, u22, u23, u24, u25, u26, u27, u28, u29, u30, u31, u32, u33, u34, u35, u36, rfl⟩
        go_wp2_with fail
        refine hf.mono ?_
        rintro e w1 ⟨rfl, hR, hO⟩
        go_wp2_with fail
        simp only [Exit.jump]
        go_ret
        exact ⟨rfl, hR, hO⟩
    · rw [stB_good h1]
      have h1i : decide ((1 : Int) < (c.toNat : Int)) = false := by simp; omega
      have hce : ((c.toNat : Int) == 1) = (c.toNat == 1) := by
        rw [Bool.eq_iff_iff]; simp; omega
      by_cases hc1 : cap = 1
      · subst hc1
        have hR0 : R = [] := List.eq_nil_of_length_eq_zero (by omega)
        subst hR0
        go_enter Try.func22, Try.ntmps22
        go_wp2_with fail
        go_step3
        go_wp2_with fail
        rw [Exit.noGoto_ret]
        go_ret
        exact ⟨rfl, HR.out.cut (L := []) (by simp) (by simp) (BsN.nil _ _ _), (Only.refl _ _).setCell 0 _⟩
      · rw [if_neg hc1] at HCUT
        go_enter Try.func22, Try.ntmps22
        go_wp2_with fail
        go_step3
        go_wp2_with fail
        rw [Exit.noGoto_ret]
        go_ret
        exact ⟨rfl, HR.out.cut (by simp) (by omega) HCUT.out, (Only.refl _ _).setCell 0 _⟩
end Go.Proofs.Ytamejodgilnchaa
