/- Contract of the document's own reader's Int. -/
import Derived.Test.YtfcigknalnmhcaaDoorRefReader
namespace Go.Proofs.YtfcigknalnmhcaaDoor
open Go.RowKit

theorem Only.like {g : Nat} {a w1 w2 : World} (h : Only g a w1) (hh : w2.heap = w1.heap) (ho : w2.os = w1.os) (ht : w2.tape = w1.tape) (hp : w2.output = w1.output) : Only g a w2 :=
  ⟨ho.trans h.os, ht.trans h.tape, hp.trans h.output, by rw [hh]; exact h.size, fun k hk => by rw [hh]; exact h.block k hk⟩
/-- k bytes of L were read, they made x; the reader stands k further. -/
def RIRel (w : World) (g : Nat) (A : Option Addr) (C L : List UInt8) (cap at_ k x : Nat) (wr : World) : Prop :=
  IntRel L k x ∧ RB wr g A C cap (at_ + k) false ∧ Only g w wr
theorem shl_in {k m x : Nat} (hm : m * 2 ^ (7 * k) < 18446744073709551616) (hx : x + m * 2 ^ (7 * k) < 18446744073709551616) :
    IntKind.u64.wrap ((x : Int) + IntKind.u64.wrap ((m : Int) * 2 ^ (7 * k))) = ((x + m * 2 ^ (7 * k) : Nat) : Int) := by
  have e : ((m : Int) * 2 ^ (7 * k)) = ((m * 2 ^ (7 * k) : Nat) : Int) := by simp
  rw [e]
  generalize m * 2 ^ (7 * k) = q at *
  simp only [IntKind.wrap, IntKind.signed, IntKind.bits]
  simp
  omega

set_option maxHeartbeats 1000000 in
set_option maxRecDepth 100000 in
theorem refrint_at (g : Nat) (L : List UInt8) (s2 : St) (v : Int) (w : World) (A : Option Addr) (C : List UInt8) (cap at_ : Nat) (h : RB w g A C cap at_ false) (hL : L = C.drop at_) (hst : Hid (stI (L, false) = (v, s2))) :
    Calls Tryd.prog 69 #[.pointer (some ⟨g, 0, none⟩)] w (LeftR w g (.int .i64 v) s2) := by
  have hlc := h.2.2.1
  have hl := h.2.2.2.1
  have hat := h.2.2.2.2
  have hlen : L.length = C.length - at_ := by rw [hL, List.length_drop]
  have HLL := Lib.hid hlen
  have HCL := Lib.hid hL
  have HRB := Lib.hid h
  clear h hL hlen
  go_enter Tryd.func69, Tryd.ntmps69
  go_wp2_with fail
  go_loopw [3, 4] (fun u i wr => ∃ k x : Nat, i = .int .i64 k ∧ u = .int .u64 (x : Int) ∧ RIRel w g A C L cap at_ k x wr) (fun _ i _ => 9 - (intOf i).toNat)
  case atStart => exact ⟨0, 0, rfl, rfl, ⟨Nat.zero_le _, by decide, by simp, by decide⟩, HRB.out, Only.refl _ _⟩
  case round =>
    obtain ⟨k, x, rfl, rfl, ⟨hk, hk9, hrd, hx⟩, hB, hO⟩ := hrel
    obtain ⟨c0, c1, c2, f1, f2⟩ := hB.cells
    have hbs := hB.2.1
    have HO := Lib.hid hO
    have HB := Lib.hid hB
    have hx63 := pow_63 hk9
    have hll := HLL.out
    clear hO hB
    simp only [Int.natCast_add] at c1
    by_cases hlt : k < L.length
    · have hac : at_ + k < C.length := by omega
      obtain ⟨ab, off, rfl, hc⟩ := hbs (by omega)
      have hck := hc (at_ + k) hac
      have hcb := byte_hi (C.getD (at_ + k) 0)
      have hCC : L.getD k 0 = C.getD (at_ + k) 0 := by rw [HCL.out, List.getD_eq_getElem?_getD, List.getD_eq_getElem?_getD, List.getElem?_drop]
      clear hc hbs
      generalize C.getD (at_ + k) 0 = c at *
      have HCC := Lib.hid hCC
      have HRD := Lib.hid hrd
      have HX := Lib.hid hx
      have HX63 := Lib.hid hx63
      clear hCC hrd hx hx63 hll
      have hi0 : (0 : Int) ≤ (at_ : Int) + (k : Int) := by omega
      have hi1 : (at_ : Int) + (k : Int) < (C.length : Int) := by omega
      have hi2 : ((at_ : Int) + (k : Int)).toNat = at_ + k := by omega
      have hi3 : decide ((C.length : Int) ≤ (at_ : Int) + (k : Int)) = false := by simp; omega
      have HRBn := Lib.hid (HB.out.setAt (n := at_ + (k + 1)) (by omega))
      have hats : ((at_ + (k + 1) : Nat) : Int) = (at_ : Int) + (k : Int) + 1 := by omega
      rw [hats] at HRBn
      clear hats
      by_cases hb1 : k = 9 ∧ 1 < c.toNat
      · have HN := Lib.hid (rd_wide hlt HCC.out HRD.out hb1)
        have HVS := Lib.hid (st_none HN.out hst.out)
        obtain ⟨rfl, hb1⟩ := hb1
        have e2 : decide ((1 : Int) < (c.toNat : Int)) = true := by simp; omega
        go_wp2_with fail
        go_quiet (fail)
        go_wp2_with fail
        go_quiet (fail)
        go_wp2_with fail
        go_ret
        exact ⟨by rw [HVS.out.1]; rfl, by rw [HVS.out.2]; exact RR.dead HRBn.out.setBad, ((HO.out.setCell 1 _).setCell 2 _).like rfl rfl rfl rfl⟩
      · by_cases hb2 : 128 ≤ c.toNat
        · have hk8 : k ≤ 8 := by omega
          have e1 : ((k : Int) == 9) = false := by simp; omega
          have e2 : decide ((c.toNat : Int) < 128) = false := by simp; omega
          have e3 : ((c.toNat : Int) == 0) = false := by simp; omega
          have HM := Lib.hid (rd_more hlt HCC.out HRD.out HX.out hk8 hb2)
          have hpow := room_pow (k := k) (m := c.toNat % 128) (by omega)
          have hm0 : (c.toNat : Int) % 128 = ((c.toNat % 128 : Nat) : Int) := by omega
          have HS := Lib.hid (shl_in (x := x) hpow (by have := HM.out.2.2.2; have := pow_63 HM.out.2.1; omega))
          generalize hq : c.toNat % 128 = m at *
          have hm : m < 128 := by omega
          clear hb1 hq hpow
          go_wp2_with fail
          go_quiet (fail)
          go_wp2_with fail
          go_quiet (fail)
          go_wp2_with fail
          all_goals
            go_roundw
            case rel => exact ⟨k + 1, _, by go_num, by rw [HS.out], HM.out, HRBn.out, (HO.out.setCell 1 _).like rfl rfl rfl rfl⟩
            case measure => simp [intOf]; omega
        · have e2 : decide ((c.toNat : Int) < 128) = true := by simp; omega
          by_cases hb3 : 0 < k ∧ c.toNat = 0
          · have HN := Lib.hid (rd_long hlt HCC.out HRD.out hb1 hb3)
            have HVS := Lib.hid (st_none HN.out hst.out)
            obtain ⟨hk0, hc0⟩ := hb3
            have e4 : ((c.toNat : Int) == 0) = true := by simp; omega
            have e5 : decide ((1 : Int) < (c.toNat : Int)) = false := by simp; omega
            have e6 : decide ((0 : Int) < (k : Int)) = true := by simp; omega
            clear hb1 hb2 hc0
            cases e1 : ((k : Int) == 9)
            all_goals
              go_wp2_with fail
              go_quiet (fail)
              go_wp2_with fail
              go_quiet (fail)
              go_wp2_with fail
              go_ret
              exact ⟨by rw [HVS.out.1]; rfl, by rw [HVS.out.2]; exact RR.dead HRBn.out.setBad, ((HO.out.setCell 1 _).setCell 2 _).like rfl rfl rfl rfl⟩
          · have HN := Lib.hid (rd_done hlt HCC.out HRD.out hb1 hb2 hb3)
            have hpow := room_pow (k := k) (m := c.toNat % 128) (by omega)
            have hm0 : (c.toNat : Int) % 128 = ((c.toNat % 128 : Nat) : Int) := by omega
            have hn0 := HN.out
            have hu := rdU_lt hn0
            have hs := shl_in (x := x) hpow hu
            obtain ⟨u0, hu0⟩ : ∃ y, y = x + c.toNat % 128 * 2 ^ (7 * k) := ⟨_, rfl⟩
            rw [← hu0] at hn0 hs hu
            have HVS := Lib.hid (st_some hn0 hst.out)
            have HDL := Lib.hid (show L.drop (k + 1) = C.drop (at_ + (k + 1)) by rw [HCL.out, List.drop_drop])
            have hways : (((k : Int) == 9) = true ∧ decide ((1 : Int) < (c.toNat : Int)) = false ∧ 0 < k ∧ ((c.toNat : Int) == 0) = false) ∨
                (((k : Int) == 9) = false ∧ True ∧ 0 < k ∧ ((c.toNat : Int) == 0) = false) ∨ (((k : Int) == 9) = false ∧ True ∧ ¬ 0 < k ∧ True) := by
              by_cases h9 : k = 9
              · exact .inl ⟨by simp; omega, by simp; omega, by omega, by simp; omega⟩
              · by_cases h0 : 0 < k
                · exact .inr (.inl ⟨by simp; omega, trivial, h0, by simp; omega⟩)
                · exact .inr (.inr ⟨by simp; omega, trivial, h0, trivial⟩)
            have hodd : (((u0 : Int) % 2 == 1) = true ∧ Hid (zz u0 = -((u0 : Int) / 2) - 1)) ∨ (((u0 : Int) % 2 == 1) = false ∧ Hid (zz u0 = (u0 : Int) / 2)) := by
              unfold zz
              by_cases h : u0 % 2 = 1
              · exact .inl ⟨by simp; omega, by rw [if_pos h]; show _ = _; omega⟩
              · exact .inr ⟨by simp; omega, by rw [if_neg h]; show _ = _; omega⟩
            clear hb1 hb2 hb3 HN hn0 hpow
            generalize hq : c.toNat % 128 = m at *
            have hm : m < 128 := by omega
            clear hq hu0
            rcases hways with ⟨e3, e4, e5, e6⟩ | ⟨e3, e4, e5, e6⟩ | ⟨e3, e4, e5, e6⟩
            all_goals
              rcases hodd with ⟨e7, e8⟩ | ⟨e7, e8⟩
              all_goals
                go_wp2_with fail
                go_quiet (fail)
                go_wp2_with fail
                go_quiet (fail)
                go_wp2_with fail
                go_ret
                exact ⟨by rw [HVS.out.1, e8.out]; first | rfl | exact ret_int (by omega), by rw [HVS.out.2, HDL.out]; exact RR.live HRBn.out rfl, (HO.out.setCell 1 _).like rfl rfl rfl rfl⟩
    · have hkL : k = L.length := by omega
      have HN := Lib.hid (rd_short hkL hrd)
      have HVS := Lib.hid (st_none HN.out hst.out)
      have hi3 : decide ((C.length : Int) ≤ (at_ : Int) + (k : Int)) = true := by simp; omega
      clear hrd hx hx63
      go_wp2_with fail
      go_quiet (fail)
      go_wp2_with fail
      go_ret
      exact ⟨by rw [HVS.out.1]; rfl, by rw [HVS.out.2]; exact RR.dead HB.out.setBad, (HO.out.setCell 2 _).like rfl rfl rfl rfl⟩
theorem refrint_any (g : Nat) (s : St) (w : World) (h : RR w g s) :
    Calls Tryd.prog 69 #[.pointer (some ⟨g, 0, none⟩)] w (LeftR w g (.int .i64 (stI s).1) (stI s).2) := by
  obtain ⟨L, b⟩ := s
  obtain ⟨A, C, cap, at_, h1, h2⟩ := h
  simp only at h1 h2
  cases b with
  | false => exact refrint_at g L (stI (L, false)).2 (stI (L, false)).1 w A C cap at_ h1 (by rw [h2]; rfl) (Lib.hid rfl)
  | true =>
    rw [if_pos rfl] at h2
    subst h2
    have hs : stI ([], true) = (0, ([], true)) := rfl
    rw [hs]
    obtain ⟨c0, c1, c2, f1, f2⟩ := h1.cells
    have HB := Lib.hid h1
    clear h1 hs
    go_enter Tryd.func69, Tryd.ntmps69
    go_wp2_with fail
    refine wp_loop_rounds 1 ?_
    rw [rounds_succ]
    go_wp2_with fail
    go_quiet (fail)
    go_wp2_with fail
    go_ret
    exact ⟨rfl, RR.dead HB.out.setBad, ((Only.refl g w).setCell 2 _).like rfl rfl rfl rfl⟩
end Go.Proofs.YtfcigknalnmhcaaDoor
