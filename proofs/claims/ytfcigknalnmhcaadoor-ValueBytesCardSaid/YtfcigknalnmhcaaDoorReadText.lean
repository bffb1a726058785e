/- Contracts of Reader's Count and Text. -/
import Derived.Test.YtfcigknalnmhcaaDoorReadInt
namespace Go.Proofs.YtfcigknalnmhcaaDoor
open Go.RowKit

theorem stC_yes {most : Int} {s : St} (h : 0 ≤ (stI s).1 ∧ (stI s).1 ≤ most ∧ (stI s).1 ≤ ((stI s).2.1.length : Int)) : stC most s = stI s := by
  unfold stC okC; rw [if_pos (decide_eq_true h)]
theorem stC_no {most : Int} {s : St} (h : ¬ (0 ≤ (stI s).1 ∧ (stI s).1 ≤ most ∧ (stI s).1 ≤ ((stI s).2.1.length : Int))) : stC most s = (0, ([], true)) := by
  unfold stC okC; rw [decide_eq_false h]; rfl
theorem stC_lo (most : Int) (s : St) : 0 ≤ (stC most s).1 ∧ (stC most s).1 ≤ ((stC most s).2.1.length : Int) := by
  by_cases h : 0 ≤ (stI s).1 ∧ (stI s).1 ≤ most ∧ (stI s).1 ≤ ((stI s).2.1.length : Int)
  · rw [stC_yes h]; exact ⟨h.1, h.2.2⟩
  · rw [stC_no h]; exact ⟨Int.le_refl _, by simp⟩

set_option maxHeartbeats 400000 in
theorem rcount_any (N g : Nat) (s : St) (most : Int) (w : World) (h : Rd N w g s) :
    Calls Tryd.prog 92 #[.pointer (some ⟨g, 0, none⟩), .int .i64 most] w (Left N w g (.int .i64 (stC most s).1) (stC most s).2) := by
  have hi := int_any N g s w h
  have hlo := stI_lo s
  have hyes := fun h => stC_yes (most := most) (s := s) h
  have hno := fun h => stC_no (most := most) (s := s) h
  obtain ⟨n, hn⟩ : ∃ n, n = (stI s).1 := ⟨_, rfl⟩
  obtain ⟨s1, hs1⟩ : ∃ s1, s1 = (stI s).2 := ⟨_, rfl⟩
  have hp : stI s = (n, s1) := by rw [hn, hs1]
  rw [hp] at hi hlo hyes hno
  simp only at hi hlo hyes hno
  clear hn hs1 hp h
  obtain ⟨hlo1, hlo2⟩ := hlo
  by_cases hok : 0 ≤ n ∧ n ≤ most ∧ n ≤ (s1.1.length : Int)
  · have hy := hyes hok
    clear hyes hno
    rw [hy]
    obtain ⟨ho1, ho2, ho3⟩ := hok
    clear hy
    go_enter Tryd.func92, Tryd.ntmps92
    go_wp2_with fail
    refine hi.mono ?_
    rintro e w1 ⟨rfl, hR, hO⟩
    obtain ⟨A, cap, c0, c1, f0, f1, hlc, _⟩ := hR.cells
    have hl := hR.len
    clear hi
    go_wp2_with fail
    go_ret
    exact ⟨rfl, hR, hO⟩
  · have hy := hno hok
    clear hyes hno
    rw [hy]
    clear hy
    have hw : n < 0 ∨ (0 ≤ n ∧ most < n) ∨ (0 ≤ n ∧ n ≤ most ∧ (s1.1.length : Int) < n) := by omega
    clear hok
    rcases hw with h1 | ⟨h1, h2⟩ | ⟨h1, h2, h3⟩
    all_goals
      go_enter Tryd.func92, Tryd.ntmps92
      go_wp2_with fail
      refine hi.mono ?_
      rintro e w1 ⟨rfl, hR, hO⟩
      obtain ⟨A, cap, c0, c1, f0, f1, hlc, _⟩ := hR.cells
      have hl := hR.len
      have hf := fail_any N g s1 w1 hR
      clear hi
      go_wp2_with fail
      refine hf.mono ?_
      rintro e w2 ⟨rfl, hR2, hO2⟩
      go_wp2_with fail
      go_ret
      exact ⟨rfl, hR2, hO.trans hO2⟩

set_option maxHeartbeats 400000 in
theorem text_any (N g : Nat) (s : St) (most : Int) (w : World) (h : Rd N w g s) :
    Calls Tryd.prog 67 #[.pointer (some ⟨g, 0, none⟩), .int .i64 most] w (Left N w g (.string ⟨(stT most s).1.toArray⟩) (stT most s).2) := by
  have hc := rcount_any N g s most w h
  have hlo := stC_lo most s
  unfold stT
  obtain ⟨n, hn⟩ : ∃ n, n = (stC most s).1 := ⟨_, rfl⟩
  obtain ⟨s1, hs1⟩ : ∃ s1, s1 = (stC most s).2 := ⟨_, rfl⟩
  rw [← hn, ← hs1] at hc hlo ⊢
  clear hn hs1 h
  obtain ⟨k, rfl⟩ : ∃ k : Nat, n = (k : Int) := ⟨n.toNat, by omega⟩
  obtain ⟨L, b⟩ := s1
  simp only [Int.toNat_natCast] at *
  obtain ⟨_, hk⟩ := hlo
  have hkl : k ≤ L.length := by omega
  clear hk
  go_enter Tryd.func67, Tryd.ntmps67
  go_wp2_with fail
  refine hc.mono ?_
  rintro e w1 ⟨rfl, hR, hO⟩
  obtain ⟨A, cap, c0, c1, f0, f1, hlc, hB⟩ := hR.cells
  have hl : L.length ≤ 140737488355328 := hR.len
  have hlc2 : L.length ≤ cap := hlc
  have c02 : w1.cell? ⟨g, 0, none⟩ = some (.slice A L.length cap) := c0
  have hB2 : BsN N w1 A L := hB
  clear hc hlc c0 hB
  have htk : (L.take k).length = k := by rw [List.length_take]; omega
  have hdl : (L.drop k).length = L.length - k := List.length_drop
  have ks := run_str_of (P := Tryd.prog) (w := w1) 48 9 5 cap Tryd.underlying48 Tryd.underlying5 Tryd.underlying9 (bs_take hB2.bs k)
  rw [htk] at ks
  have HCUT := Lib.hid (BsN.drop hB2 k cap hlc2)
  have HDL := Lib.hid hdl
  have hkc : k ≤ cap := by omega
  have HR := Lib.hid hR
  have HO := Lib.hid hO
  clear hB2 hdl htk hR hO
  generalize L.take k = T at *
  by_cases hck : cap = k
  · have hk2 : k = L.length := by omega
    subst hck
    have HD := Lib.hid (show L.drop cap = [] by rw [hk2]; exact List.drop_length)
    have HK := Lib.hid hk2
    clear hk2
    go_wp2_with fail
    go_ret
    exact ⟨rfl, by rw [HD.out]; exact HR.out.cut (L := []) (by simp) (by simp) (BsN.nil _ _ _), HO.out.trans ((Only.refl _ _).setCell 0 _)⟩
  · have HH := HCUT.out
    rw [if_neg hck] at HH
    have HC := Lib.hid HH
    clear HCUT HH
    go_wp2_with fail
    go_ret
    exact ⟨rfl, by rw [← HDL.out]; exact HR.out.cut (by rw [HDL.out]; simp) (by rw [HDL.out]; omega) HC.out, HO.out.trans ((Only.refl _ _).setCell 0 _)⟩
end Go.Proofs.YtfcigknalnmhcaaDoor
