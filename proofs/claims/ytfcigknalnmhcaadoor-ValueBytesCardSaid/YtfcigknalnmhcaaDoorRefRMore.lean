/- Contracts of the document's own reader's Bool, Count, Text. -/
import Derived.Test.YtfcigknalnmhcaaDoorRefRInt
namespace Go.Proofs.YtfcigknalnmhcaaDoor
open Go.RowKit

theorem ret_b {a b : Bool} (h : a = b) : Ending.returned (.bool a) = .returned (.bool b) := by rw [h]

set_option maxHeartbeats 1000000 in
theorem refrcount_any (g : Nat) (s : St) (most : Int) (w : World) (h : RR w g s) :
    Calls Tryd.prog 93 #[.pointer (some ⟨g, 0, none⟩), .int .i64 most] w (LeftR w g (.int .i64 (stC most s).1) (stC most s).2) := by
  have hi := refrint_any g s w h
  have hlo := stI_lo s
  have hyes := fun h => stC_yes (most := most) (s := s) h
  have hno := fun h => stC_no (most := most) (s := s) h
  obtain ⟨n, hn⟩ : ∃ n, n = (stI s).1 := ⟨_, rfl⟩
  obtain ⟨s1, hs1⟩ : ∃ s1, s1 = (stI s).2 := ⟨_, rfl⟩
  have hp : stI s = (n, s1) := by rw [hn, hs1]
  rw [hp] at hi hlo hyes hno
  simp only at hi hlo hyes hno
  clear hn hs1 hp h
  obtain ⟨hlo1, hlo2⟩ := hlo
  by_cases hok : 0 ≤ n ∧ n ≤ most ∧ n ≤ (s1.1.length : Int)
  · have hy := hyes hok
    clear hyes hno
    rw [hy]
    clear hy
    cases hb : s1.2 with
    | true =>
      go_enter Tryd.func93, Tryd.ntmps93
      go_wp2_with fail
      refine hi.mono ?_
      rintro e w1 ⟨rfl, hR, hO⟩
      obtain ⟨A, C, cap, at_, h1, h2⟩ := hR
      rw [hb] at h1 h2
      rw [if_pos rfl] at h2
      obtain ⟨c0, c1, c2, f1, f2⟩ := h1.cells
      have HB := Lib.hid h1
      have HO := Lib.hid hO
      have hn0 : n = 0 := by rw [h2] at hok; simp at hok; omega
      have HS := Lib.hid (show s1 = ([], true) by rw [← h2, ← hb])
      have HN := Lib.hid hn0
      clear hi h1 h2 hO hb hok hn0
      go_wp2_with fail
      go_ret
      exact ⟨by rw [HN.out]; rfl, by rw [HS.out]; exact RR.dead HB.out.setBad, HO.out.setCell 2 _⟩
    | false =>
      obtain ⟨ho1, ho2, ho3⟩ := hok
      have HBAD := Lib.hid hb
      go_enter Tryd.func93, Tryd.ntmps93
      go_wp2_with fail
      refine hi.mono ?_
      rintro e w1 ⟨rfl, hR, hO⟩
      have cl := refleft_any g s1 w1 hR
      have HR := Lib.hid hR
      obtain ⟨A, C, cap, at_, h1, h2⟩ := hR
      rw [hb] at h1
      obtain ⟨c0, c1, c2, f1, f2⟩ := h1.cells
      have HO := Lib.hid hO
      clear hi h1 h2 hO hb
      go_wp2_with fail
      refine cl.mono ?_
      rintro e w2 ⟨rfl, nd, rfl⟩
      go_wp2_with fail
      go_ret
      exact ⟨rfl, HR.out, HO.out.like rfl rfl rfl rfl⟩
  · have hy := hno hok
    clear hyes hno
    rw [hy]
    clear hy
    have hw : n < 0 ∨ (0 ≤ n ∧ most < n) ∨ (0 ≤ n ∧ n ≤ most ∧ (s1.1.length : Int) < n) := by omega
    clear hok
    rcases hw with h1 | ⟨h1, h2⟩ | ⟨h1, h2, h3⟩
    all_goals
      cases hb : s1.2
      all_goals
        go_enter Tryd.func93, Tryd.ntmps93
        go_wp2_with fail
        refine hi.mono ?_
        rintro e w1 ⟨rfl, hR, hO⟩
        have cl := refleft_any g s1 w1 hR
        obtain ⟨A, C, cap, at_, k1, k2⟩ := hR
        rw [hb] at k1
        obtain ⟨c0, c1, c2, f1, f2⟩ := k1.cells
        have HB := Lib.hid k1
        have HO := Lib.hid hO
        clear hi k1 k2 hO hb
        go_wp2_with fail
        try
          refine cl.mono ?_
          rintro e w2 ⟨rfl, nd, rfl⟩
          go_wp2_with fail
        go_ret
        exact ⟨rfl, RR.dead HB.out.setBad, (HO.out.setCell 2 _).like rfl rfl rfl rfl⟩
end Go.Proofs.YtfcigknalnmhcaaDoor
