/- Contract of the document's own reader's Text. -/
import Derived.Test.YtfcigknalnmhcaaDoorRefRMore
namespace Go.Proofs.YtfcigknalnmhcaaDoor
open Go.ChangeShapes Go.WideShapes Go.ChangeAt Go.RowKit

theorem bs_cut {w : World} {A : Option Addr} {C : List UInt8} {cap : Nat} (h : Bs w A C) (at_ k : Nat) (hc : C.length ≤ cap) : Bs w (if cap = at_ then A else A.map (·.add at_)) ((C.drop at_).take k) := bs_take (bs_drop h at_ cap hc) k

set_option maxHeartbeats 1000000 in
set_option maxRecDepth 100000 in
theorem refrtext_any (g : Nat) (s : St) (most : Int) (w : World) (h : RR w g s) :
    Calls Tryd.prog 70 #[.pointer (some ⟨g, 0, none⟩), .int .i64 most] w (LeftR w g (.string ⟨(stT most s).1.toArray⟩) (stT most s).2) := by
  have hc := refrcount_any g s most w h
  have hlo := stC_lo most s
  unfold stT
  obtain ⟨n, hn⟩ : ∃ n, n = (stC most s).1 := ⟨_, rfl⟩
  obtain ⟨s1, hs1⟩ : ∃ s1, s1 = (stC most s).2 := ⟨_, rfl⟩
  rw [← hn, ← hs1] at hc hlo ⊢
  clear hn hs1 h
  obtain ⟨k, rfl⟩ : ∃ k : Nat, n = (k : Int) := ⟨n.toNat, by omega⟩
  obtain ⟨L, b⟩ := s1
  simp only [Int.toNat_natCast] at *
  obtain ⟨_, hk⟩ := hlo
  have hkl : k ≤ L.length := by omega
  clear hk
  cases b with
  | true =>
    go_enter Tryd.func70, Tryd.ntmps70
    go_wp2_with fail
    refine hc.mono ?_
    rintro e w1 ⟨rfl, hR, hO⟩
    obtain ⟨A, C, cap, at_, h1, h2⟩ := hR
    have h3 : L = [] := h2
    subst h3
    obtain ⟨c0, c1, c2, f1, f2⟩ := h1.cells
    have HB := Lib.hid h1
    have HO := Lib.hid hO
    clear hc h1 h2 hO
    simp only at c2
    go_wp2_with fail
    go_ret
    exact ⟨by simp, by simp; exact RR.dead HB.out, HO.out⟩
  | false =>
    go_enter Tryd.func70, Tryd.ntmps70
    go_wp2_with fail
    refine hc.mono ?_
    rintro e w1 ⟨rfl, hR, hO⟩
    obtain ⟨A, C, cap, at_, h1, h2⟩ := hR
    have h3 : L = C.drop at_ := h2
    have h4 : RB w1 g A C cap at_ false := h1
    obtain ⟨c0, c1, c2, f1, f2⟩ := h4.cells
    have hlen : L.length = C.length - at_ := by rw [h3, List.length_drop]
    have hat := h4.2.2.2.2
    have hcl := h4.2.2.2.1
    have hlc := h4.2.2.1
    have hak : at_ + k ≤ C.length := by omega
    have HRBn := Lib.hid (h4.setAt (n := at_ + k) hak)
    have hwn : (w1.setCell ⟨g, 1, none⟩ (.int .i64 ((at_ + k : Nat) : Int))) = (w1.setCell ⟨g, 1, none⟩ (.int .i64 ((at_ : Int) + (k : Int)))) := by rw [Int.natCast_add]
    rw [hwn] at HRBn
    have htk : ((C.drop at_).take k).length = k := by rw [List.length_take, List.length_drop]; omega
    have ks := run_str_of (P := Tryd.prog) (w := (w1.setCell ⟨g, 1, none⟩ (.int .i64 ((at_ : Int) + (k : Int)))).drew) 48 9 5 (cap - at_) Tryd.underlying48 Tryd.underlying5 Tryd.underlying9 (bs_cut HRBn.out.2.1 at_ k hlc)
    rw [htk, ← h3] at ks
    have HL := Lib.hid h3
    have HO := Lib.hid hO
    have hi1 : IntKind.i64.wrap ((at_ : Int) + (k : Int)) = (at_ : Int) + (k : Int) := IntWalk.i64_in _ (by omega)
    have hi2 : IntKind.i64.wrap ((at_ : Int) + (k : Int) - (k : Int)) = (at_ : Int) := by rw [Int.add_sub_cancel]; exact IntWalk.i64_in _ (by omega)
    have hi3 : IntKind.i64.wrap (at_ : Int) = (at_ : Int) := IntWalk.i64_in _ (by omega)
    have hi4 : ((at_ : Int) + (k : Int)).toNat = at_ + k := by omega
    have hi5 : at_ + k - at_ = k := by omega
    have hacap : at_ + k ≤ cap := by omega
    clear hc h1 h2 hO h3 h4 hlen hwn htk hkl
    generalize L.take k = T at *
    have HS := Lib.hid ((HO.out).setCell 1 (.int .i64 ((at_ : Int) + (k : Int))))
    go_wp2_with fail
    obtain ⟨d0, d1, d2, _, _⟩ := HRBn.out.cells
    simp only [Int.natCast_add] at d1
    clear c0 c1 c2 f1 f2
    generalize w1.setCell ⟨g, 1, none⟩ (.int .i64 ((at_ : Int) + (k : Int))) = wx at *
    by_cases hca : cap = at_
    · rw [if_pos hca] at ks
      have hk0 : k = 0 := by omega
      subst hk0
      rw [show cap - at_ = 0 by omega] at ks
      simp only [Int.natCast_zero, Int.add_zero, Nat.add_zero, Nat.sub_self] at *
      refine wp_region_still_lit (by kernel_rfl) (by kernel_rfl) ?_
      repeat still_step
      refine wpStill_nil ?_
      change Exit.then _ _ _ _ wx.drew
      go_wp2_with fail
      go_ret
      exact ⟨rfl, RR.live HRBn.out (by rw [HL.out]; rfl), HS.out.like rfl rfl rfl rfl⟩
    · rw [if_neg hca] at ks
      have hj1 : (at_ : Int) + (k : Int) ≤ (cap : Int) := by omega
      have hj2 : (0 : Int) ≤ (at_ : Int) := by omega
      have hj3 : (at_ : Int) ≤ (at_ : Int) + (k : Int) := by omega
      have hj4 : ((0 : Int) ≤ (at_ : Int) ∧ (at_ : Int) ≤ (at_ : Int) + (k : Int) ∧ (at_ : Int) + (k : Int) ≤ (cap : Int)) := ⟨hj2, hj3, hj1⟩
      refine wp_region_still_lit (by kernel_rfl) (by kernel_rfl) ?_
      repeat still_step
      refine wpStill_nil ?_
      change Exit.then _ _ _ _ wx.drew
      go_wp2_with fail
      go_ret
      exact ⟨rfl, RR.live HRBn.out (by rw [HL.out, List.drop_drop]), HS.out.like rfl rfl rfl rfl⟩
end Go.Proofs.YtfcigknalnmhcaaDoor
