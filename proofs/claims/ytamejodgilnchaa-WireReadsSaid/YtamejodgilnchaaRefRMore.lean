/- Contracts of the document's own reader's Bool, Count, Text. -/
import Derived.Test.YtamejodgilnchaaRefRInt
namespace Go.Proofs.Ytamejodgilnchaa
open Go.RowKit

theorem ret_b {a b : Bool} (h : a = b) : Ending.returned (.bool a) = .returned (.bool b) := by rw [h]

set_option maxHeartbeats 1000000 in
theorem refrbool_any (g : Nat) (s : St) (w : World) (h : RR w g s) :
    Calls Try.prog 23 #[.pointer (some ⟨g, 0, none⟩)] w (LeftR w g (.bool (stB s).1) (stB s).2) := by
  obtain ⟨L, b⟩ := s
  obtain ⟨A, C, cap, at_, h1, h2⟩ := h
  simp only at h1 h2
  obtain ⟨c0, c1, c2, f1, f2⟩ := h1.cells
  have HB := Lib.hid h1
  have hl := h1.2.2.2.1
  have hlc := h1.2.2.1
  have hat := h1.2.2.2.2
  have hbs := h1.2.1
  clear h1
  cases b with
  | true =>
    rw [if_pos rfl] at h2
    subst h2
    rw [stB_nil]
    go_enter Try.func23, Try.ntmps23
    go_wp2_with fail
    go_quiet (fail)
    go_wp2_with fail
    go_ret
    exact ⟨rfl, RR.dead HB.out.setBad, ((Only.refl g w).setCell 2 _).like rfl rfl rfl rfl⟩
  | false =>
    rw [if_neg (by decide)] at h2
    have hlen : L.length = C.length - at_ := by rw [h2, List.length_drop]
    cases L with
    | nil =>
      have hi3 : decide ((C.length : Int) ≤ (at_ : Int)) = true := by simp at hlen ⊢; omega
      have hi4 : decide (C.length ≤ at_) = true := by simp at hlen ⊢; omega
      rw [stB_nil]
      clear h2 hlen
      go_enter Try.func23, Try.ntmps23
      go_wp2_with fail
      go_quiet (fail)
      go_wp2_with fail
      go_ret
      exact ⟨rfl, RR.dead HB.out.setBad, ((Only.refl g w).setCell 2 _).like rfl rfl rfl rfl⟩
    | cons c R =>
      rw [List.length_cons] at hlen
      have hac : at_ < C.length := by omega
      have hi3 : decide ((C.length : Int) ≤ (at_ : Int)) = false := by simp; omega
      have hi4 : decide (C.length ≤ at_) = false := by simp; omega
      obtain ⟨ab, off, rfl, hc⟩ := hbs (by omega)
      have hck := hc at_ hac
      have hcc : C.getD at_ 0 = c := by
        have h3 : (C.drop at_).getD 0 0 = c := by rw [← h2]; rfl
        rwa [List.getD_eq_getElem?_getD, List.getElem?_drop, Nat.add_zero, ← List.getD_eq_getElem?_getD] at h3
      have HDR := Lib.hid (show R = C.drop (at_ + 1) by rw [← List.drop_drop, ← h2]; rfl)
      rw [hcc] at hck
      have hne := HB.out.apart hck
      have hne2 : ¬ g = ab := fun e => hne e.symm
      have hcb := byte_hi c
      have HCE := Lib.hid (show ((c.toNat : Int) == 1) = (c.toNat == 1) by rw [Bool.eq_iff_iff]; simp; omega)
      have HRBn := Lib.hid (HB.out.setAt (n := at_ + 1) (by omega))
      rw [show ((at_ + 1 : Nat) : Int) = (at_ : Int) + 1 by omega] at HRBn
      clear h2 hlen hc hcc hbs
      have hi0 : (0 : Int) ≤ (at_ : Int) := by omega
      have hi1 : (at_ : Int) < (C.length : Int) := by omega
      have hi2 : ((at_ : Int)).toNat = at_ := by omega
      have hi5 : IntKind.i64.wrap ((at_ : Int) + 1 - 1) = (at_ : Int) := by rw [Int.add_sub_cancel]; exact IntWalk.i64_in _ (by omega)
      have hi6 : IntKind.i64.wrap (at_ : Int) = (at_ : Int) := IntWalk.i64_in _ (by omega)
      by_cases hb1 : 1 < c.toNat
      · have e2 : decide ((1 : Int) < (c.toNat : Int)) = true := by simp; omega
        rw [stB_bad hb1]
        go_enter Try.func23, Try.ntmps23
        go_wp2_with fail
        go_quiet (fail)
        go_wp2_with fail
        go_ret
        exact ⟨rfl, RR.dead HB.out.setBad, ((Only.refl g w).setCell 2 _).like rfl rfl rfl rfl⟩
      · have e2 : decide ((1 : Int) < (c.toNat : Int)) = false := by simp; omega
        rw [stB_good hb1]
        go_enter Try.func23, Try.ntmps23
        go_wp2_with fail
        go_quiet (fail)
        go_wp2_with fail
        go_quiet (fail)
        go_wp2_with fail
        go_ret
        exact ⟨ret_b HCE.out, by rw [HDR.out]; exact RR.live HRBn.out rfl, ((Only.refl g w).setCell 1 _).like rfl rfl rfl rfl⟩

set_option maxHeartbeats 1000000 in
theorem refrcount_any (g : Nat) (s : St) (most : Int) (w : World) (h : RR w g s) :
    Calls Try.prog 27 #[.pointer (some ⟨g, 0, none⟩), .int .i64 most] w (LeftR w g (.int .i64 (stC most s).1) (stC most s).2) := by
  have hi := refrint_any g s w h
  have hlo := stI_lo s
  have hyes := fun h => stC_yes (most := most) (s := s) h
  have hno := fun h => stC_no (most := most) (s := s) h
  obtain ⟨n, hn⟩ : ∃ n, n = (stI s).1 := ⟨_, rfl⟩
  obtain ⟨s1, hs1⟩ : ∃ s1, s1 = (stI s).2 := ⟨_, rfl⟩
  have hp : stI s = (n, s1) := by rw [hn, hs1]
  rw [hp] at hi hlo hyes hno
  simp only at hi hlo hyes hno
  clear hn hs1 hp h
  obtain ⟨hlo1, hlo2⟩ := hlo
  by_cases hok : 0 ≤ n ∧ n ≤ most ∧ n ≤ (s1.1.length : Int)
  · have hy := hyes hok
    clear hyes hno
    rw [hy]
    clear hy
    cases hb : s1.2 with
    | true =>
      go_enter Try.func27, Try.ntmps27
      go_wp2_with fail
      refine hi.mono ?_
      rintro e w1 ⟨rfl, hR, hO⟩
      obtain ⟨A, C, cap, at_, h1, h2⟩ := hR
      rw [hb] at h1 h2
      rw [if_pos rfl] at h2
      obtain ⟨c0, c1, c2, f1, f2⟩ := h1.cells
      have HB := Lib.hid h1
      have HO := Lib.hid hO
      have hn0 : n = 0 := by rw [h2] at hok; simp at hok; omega
      have HS := Lib.hid (show s1 = ([], true) by rw [← h2, ← hb])
      have HN := Lib.hid hn0
      clear hi h1 h2 hO hb hok hn0
      go_wp2_with fail
      go_ret
      exact ⟨by rw [HN.out]; rfl, by rw [HS.out]; exact RR.dead HB.out.setBad, HO.out.setCell 2 _⟩
    | false =>
      obtain ⟨ho1, ho2, ho3⟩ := hok
      have HBAD := Lib.hid hb
      go_enter Try.func27, Try.ntmps27
      go_wp2_with fail
      refine hi.mono ?_
      rintro e w1 ⟨rfl, hR, hO⟩
      have cl := refleft_any g s1 w1 hR
      have HR := Lib.hid hR
      obtain ⟨A, C, cap, at_, h1, h2⟩ := hR
      rw [hb] at h1
      obtain ⟨c0, c1, c2, f1, f2⟩ := h1.cells
      have HO := Lib.hid hO
      clear hi h1 h2 hO hb
      go_wp2_with fail
      refine cl.mono ?_
      rintro e w2 ⟨rfl, nd, rfl⟩
      go_wp2_with fail
      go_ret
      exact ⟨rfl, HR.out, HO.out.like rfl rfl rfl rfl⟩
  · have hy := hno hok
    clear hyes hno
    rw [hy]
    clear hy
    have hw : n < 0 ∨ (0 ≤ n ∧ most < n) ∨ (0 ≤ n ∧ n ≤ most ∧ (s1.1.length : Int) < n) := by omega
    clear hok
    rcases hw with h1 | ⟨h1, h2⟩ | ⟨h1, h2, h3⟩
    all_goals
      cases hb : s1.2
      all_goals
        go_enter Try.func27, Try.ntmps27
        go_wp2_with fail
        refine hi.mono ?_
        rintro e w1 ⟨rfl, hR, hO⟩
        have cl := refleft_any g s1 w1 hR
        obtain ⟨A, C, cap, at_, k1, k2⟩ := hR
        rw [hb] at k1
        obtain ⟨c0, c1, c2, f1, f2⟩ := k1.cells
        have HB := Lib.hid k1
        have HO := Lib.hid hO
        clear hi k1 k2 hO hb
        go_wp2_with fail
        try
          refine cl.mono ?_
          rintro e w2 ⟨rfl, nd, rfl⟩
          go_wp2_with fail
        go_ret
        exact ⟨rfl, RR.dead HB.out.setBad, (HO.out.setCell 2 _).like rfl rfl rfl rfl⟩
end Go.Proofs.Ytamejodgilnchaa
