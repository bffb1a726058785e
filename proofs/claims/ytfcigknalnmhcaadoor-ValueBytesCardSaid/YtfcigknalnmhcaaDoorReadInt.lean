/- Contract of Reader's Int. -/
import Derived.Test.YtfcigknalnmhcaaDoorReadBool
import Derived.Laws.BitsAllLaws
namespace Go.Proofs.YtfcigknalnmhcaaDoor
open Go.RowKit

/-- At the label: the frame, whatever its slots hold but the first. -/
def AtInt (g : Nat) (w : World) (a : Act) (w' : World) : Prop := w' = w ∧ ∃ u1 u2 u3 u4 u5 u6 u7 u8 u9 u10 u11 u12 u13 u14 u15 u16 u17 u18 u19 u20 u21 u22 u23 u24 u25 u26 u27 u28 u29 u30 u31 u32 u33 u34 u35 u36 u37 u38 u39 u40 u41 u42 u43 u44 u45 u46 u47 u48 u49 u50 u51 u52 : Value, a = { tmps := #[.pointer (some ⟨g, 0, none⟩), u1, u2, u3, u4, u5, u6, u7, u8, u9, u10, u11, u12, u13, u14, u15, u16, u17, u18, u19, u20, u21, u22, u23, u24, u25, u26, u27, u28, u29, u30, u31, u32, u33, u34, u35, u36, u37, u38, u39, u40, u41, u42, u43, u44, u45, u46, u47, u48, u49, u50, u51, u52], defers := [] }
theorem AtInt.mk {g : Nat} {w : World} {u1 u2 u3 u4 u5 u6 u7 u8 u9 u10 u11 u12 u13 u14 u15 u16 u17 u18 u19 u20 u21 u22 u23 u24 u25 u26 u27 u28 u29 u30 u31 u32 u33 u34 u35 u36 u37 u38 u39 u40 u41 u42 u43 u44 u45 u46 u47 u48 u49 u50 u51 u52 : Value} : AtInt g w { tmps := #[.pointer (some ⟨g, 0, none⟩), u1, u2, u3, u4, u5, u6, u7, u8, u9, u10, u11, u12, u13, u14, u15, u16, u17, u18, u19, u20, u21, u22, u23, u24, u25, u26, u27, u28, u29, u30, u31, u32, u33, u34, u35, u36, u37, u38, u39, u40, u41, u42, u43, u44, u45, u46, u47, u48, u49, u50, u51, u52], defers := [] } w := ⟨rfl, _, _, _, _, _, _, _, _, _, _, _, _, _, _, _, _, _, _, _, _, _, _, _, _, _, _, _, _, _, _, _, _, _, _, _, _, _, _, _, _, _, _, _, _, _, _, _, _, _, _, _, _, rfl⟩

theorem and_u8 (c : UInt8) : bits .and .u8 (c.toNat : Int) 127 = ((c.toNat % 128 : Nat) : Int) := by
  have hc := c.toNat_lt
  have h2 : bits .and .u8 (c.toNat : Int) 127 = ((c.toNat &&& 127 : Nat) : Int) := u8_and_nat c.toNat 127 (by omega) (by decide)
  rw [h2, show (127 : Nat) = 2 ^ 7 - 1 by rfl, Nat.and_two_pow_sub_one_eq_mod]

/-- k bytes were read, they made x. -/
def IntRel (L : List UInt8) (k x : Nat) : Prop := k ≤ L.length ∧ k ≤ 9 ∧ rdU 0 0 L = rdU k x (L.drop k) ∧ x < 2 ^ (7 * k)

theorem room_pow {k m : Nat} (h : k ≤ 8 ∧ m < 128 ∨ k = 9 ∧ m ≤ 1) : m * 2 ^ (7 * k) < 18446744073709551616 := by
  rcases h with ⟨hk, hm⟩ | ⟨rfl, hm⟩
  · have hp : 2 ^ (7 * k) ≤ 2 ^ 56 := Nat.pow_le_pow_right (by decide) (by omega)
    have hm2 : m * 2 ^ (7 * k) ≤ 127 * 2 ^ 56 := Nat.mul_le_mul (by omega) hp
    omega
  · simp only [Nat.reduceMul, Nat.reducePow]
    omega
theorem or_shift {k m x : Nat} (hm : m * 2 ^ (7 * k) < 18446744073709551616) (hx : x < 2 ^ (7 * k)) (hx2 : x < 18446744073709551616) :
    bits .or .u64 (x : Int) (IntKind.u64.wrap ((m : Int) * 2 ^ (7 * k))) = ((x + m * 2 ^ (7 * k) : Nat) : Int) := by
  have e : ((m : Int) * 2 ^ (7 * k)) = ((m * 2 ^ (7 * k) : Nat) : Int) := by simp
  have e2 : IntKind.u64.wrap ((m * 2 ^ (7 * k) : Nat) : Int) = ((m * 2 ^ (7 * k) : Nat) : Int) := by
    generalize m * 2 ^ (7 * k) = q at *
    simp only [IntKind.wrap, IntKind.signed, IntKind.bits]
    simp
    omega
  rw [e, e2, u64_or_nat _ _ hx2 hm]
  have h3 : 2 ^ (7 * k) * m + x = 2 ^ (7 * k) * m ||| x := Nat.two_pow_add_eq_or_of_lt hx m
  rw [Nat.or_comm, Nat.mul_comm, ← h3, Nat.add_comm]
theorem pow_63 {k : Nat} (h : k ≤ 9) : 2 ^ (7 * k) ≤ 9223372036854775808 := Nat.le_trans (Nat.pow_le_pow_right (by decide) (show 7 * k ≤ 63 by omega)) (by decide)
theorem drop_at {L : List UInt8} {k : Nat} {c : UInt8} (h : k < L.length) (hc : L.getD k 0 = c) : L.drop k = c :: L.drop (k + 1) := by
  rw [List.drop_eq_getElem_cons h, ← hc, List.getD_eq_getElem?_getD, List.getElem?_eq_getElem h]; rfl
section
variable {L : List UInt8} {k x : Nat} {c : UInt8}
theorem rd_more (hlt : k < L.length) (hc : L.getD k 0 = c) (hrd : rdU 0 0 L = rdU k x (L.drop k)) (hx : x < 2 ^ (7 * k)) (hk : k ≤ 8) (hb : 128 ≤ c.toNat) : IntRel L (k + 1) (x + c.toNat % 128 * 2 ^ (7 * k)) := by
  refine ⟨hlt, by omega, ?_, ?_⟩
  · rw [hrd, drop_at hlt hc]
    conv => lhs; unfold rdU
    rw [if_neg (by omega), if_pos hb]
  · have h2 : c.toNat % 128 * 2 ^ (7 * k) ≤ 127 * 2 ^ (7 * k) := Nat.mul_le_mul_right _ (by omega)
    rw [pow7]
    omega
theorem rd_wide (hlt : k < L.length) (hc : L.getD k 0 = c) (hrd : rdU 0 0 L = rdU k x (L.drop k)) (h : k = 9 ∧ 1 < c.toNat) : rdU 0 0 L = none := by
  rw [hrd, drop_at hlt hc]; unfold rdU; rw [if_pos h]
theorem rd_long (hlt : k < L.length) (hc : L.getD k 0 = c) (hrd : rdU 0 0 L = rdU k x (L.drop k)) (h1 : ¬ (k = 9 ∧ 1 < c.toNat)) (h : 0 < k ∧ c.toNat = 0) : rdU 0 0 L = none := by
  rw [hrd, drop_at hlt hc]; unfold rdU; rw [if_neg h1, if_neg (by omega), if_pos h]
theorem rd_done (hlt : k < L.length) (hc : L.getD k 0 = c) (hrd : rdU 0 0 L = rdU k x (L.drop k)) (h1 : ¬ (k = 9 ∧ 1 < c.toNat)) (h2 : ¬ 128 ≤ c.toNat) (h : ¬ (0 < k ∧ c.toNat = 0)) : rdU 0 0 L = some (x + c.toNat % 128 * 2 ^ (7 * k), L.drop (k + 1)) := by
  rw [hrd, drop_at hlt hc]; unfold rdU; rw [if_neg h1, if_neg h2, if_neg h]
theorem rd_short (hlt : k = L.length) (hrd : rdU 0 0 L = rdU k x (L.drop k)) : rdU 0 0 L = none := by
  rw [hrd, hlt, List.drop_length]; rfl
end

theorem rdU_lt {L R : List UInt8} {u : Nat} (h : rdU 0 0 L = some (u, R)) : u < 18446744073709551616 := by
  obtain ⟨x, _, e2, _, e4⟩ := rdU_back L 0 0 u R (by decide) h
  have e5 : u = x := by rw [e2]; simp
  subst e5
  simpa using e4

theorem st_none {L : List UInt8} {b : Bool} {v : Int} {s2 : St} (h : rdU 0 0 L = none) (hst : stI (L, b) = (v, s2)) : v = 0 ∧ s2 = ([], true) := by
  rw [stI_none (s := (L, b)) h] at hst
  injection hst with h1 h2
  exact ⟨h1.symm, h2.symm⟩
theorem st_some {L R : List UInt8} {b : Bool} {u : Nat} {v : Int} {s2 : St} (h : rdU 0 0 L = some (u, R)) (hst : stI (L, b) = (v, s2)) : v = zz u ∧ s2 = (R, b) := by
  rw [stI_some (s := (L, b)) h] at hst
  injection hst with h1 h2
  exact ⟨h1.symm, h2.symm⟩

set_option maxHeartbeats 400000 in
set_option maxRecDepth 100000 in
theorem int_at (N g : Nat) (s s2 : St) (v : Int) (w : World) (h : Rd N w g s) (hst : Hid (stI s = (v, s2))) :
    Calls Tryd.prog 66 #[.pointer (some ⟨g, 0, none⟩)] w (Left N w g (.int .i64 v) s2) := by
  obtain ⟨A, cap, c0, c1, f0, f1, hlc, hB⟩ := h.cells
  have hf := fail_any N g s w h
  have hl := h.len
  obtain ⟨L, b⟩ := s
  simp only at *
  have HR := Lib.hid h
  have HB := Lib.hid hB
  clear h hB
  go_enter Tryd.func66, Tryd.ntmps66
  go_wp2_with fail
  refine wp_scope_jumps 0 (fun a' w' => AtInt g w a' w' ∧ rdU 0 0 L = none) (fun _ _ => 0) rfl ?_ ?_
  · go_wp2_with fail
    go_loop [3, 11] (fun u i => ∃ k x : Nat, i = .int .i64 k ∧ u = .int .u64 (x : Int) ∧ IntRel L k x) (fun _ i => 9 - (intOf i).toNat)
    case atStart => exact ⟨0, 0, rfl, rfl, Nat.zero_le _, by decide, by simp, by decide⟩
    case round =>
      obtain ⟨k, x, rfl, rfl, hk, hk9, hrd, hx⟩ := hrel
      have hx63 := pow_63 hk9
      by_cases hlt : k < L.length
      · obtain ⟨ab, off, rfl, hN, hc⟩ := HB.out (by omega)
        have hck := hc k hlt
        have hcb := byte_hi (L.getD k 0)
        have hand := and_u8 (L.getD k 0)
        clear hc
        generalize hcc : L.getD k 0 = c at *
        have HCC := Lib.hid hcc
        have HRD := Lib.hid hrd
        have HX := Lib.hid hx
        have HX63 := Lib.hid hx63
        clear hcc hrd hx hx63
        by_cases hb1 : k = 9 ∧ 1 < c.toNat
        · have HN := Lib.hid (rd_wide hlt HCC.out HRD.out hb1)
          obtain ⟨rfl, hb1⟩ := hb1
          have e2 : decide ((1 : Int) < (c.toNat : Int)) = true := by simp; omega
          go_wp2_with fail
          go_step3
          exact ⟨rfl, AtInt.mk, HN.out⟩
        · by_cases hb2 : 128 ≤ c.toNat
          · have hk8 : k ≤ 8 := by omega
            have e1 : ((k : Int) == 9) = false := by simp; omega
            have e2 : decide ((128 : Int) ≤ (c.toNat : Int)) = true := by simp; omega
            have HM := Lib.hid (rd_more hlt HCC.out HRD.out HX.out hk8 hb2)
            have HO := Lib.hid (or_shift (room_pow (k := k) (m := c.toNat % 128) (by omega)) HX.out (Nat.lt_of_lt_of_le HX.out (Nat.le_trans HX63.out (by decide))))
            generalize hq : c.toNat % 128 = m at *
            have hm : m < 128 := by omega
            clear hb1 hq
            go_wp2_with fail
            go_round
            case rel => exact ⟨k + 1, _, by go_num, by rw [HO.out], HM.out⟩
            case measure => simp [intOf]; omega
          · have e2 : decide ((128 : Int) ≤ (c.toNat : Int)) = false := by simp; omega
            by_cases hb3 : 0 < k ∧ c.toNat = 0
            · have HN := Lib.hid (rd_long hlt HCC.out HRD.out hb1 hb3)
              obtain ⟨hk0, hc0⟩ := hb3
              have e4 : ((c.toNat : Int) == 0) = true := by simp; omega
              have e5 : decide ((1 : Int) < (c.toNat : Int)) = false := by simp; omega
              clear hb1 hb2
              generalize hq : c.toNat % 128 = m at *
              have hm : m < 128 := by omega
              clear hq hc0
              cases e1 : ((k : Int) == 9)
              all_goals
                go_wp2_with fail
                go_step3
                exact ⟨rfl, AtInt.mk, HN.out⟩
            · have HN := Lib.hid (rd_done hlt HCC.out HRD.out hb1 hb2 hb3)
              have hpow := room_pow (k := k) (m := c.toNat % 128) (by omega)
              have ho := or_shift hpow HX.out (Nat.lt_of_lt_of_le HX.out (Nat.le_trans HX63.out (by decide)))
              obtain ⟨u0, hu0⟩ : ∃ y, y = x + c.toNat % 128 * 2 ^ (7 * k) := ⟨_, rfl⟩
              have hn0 := HN.out
              rw [← hu0] at hn0 ho
              have hu := rdU_lt hn0
              have HVS := Lib.hid (st_some hn0 hst.out)
              clear hst
              have hcut := BsN.drop HB.out (k + 1) cap hlc
              have hdl : (L.drop (k + 1)).length = L.length - (k + 1) := List.length_drop
              have hsg := fun w => signed_any u0 w hu
              have hcap : (cap = k + 1 ∧ L.length = k + 1) ∨ ¬ cap = k + 1 := by omega
              have hways : (((k : Int) == 9) = true ∧ decide ((1 : Int) < (c.toNat : Int)) = false ∧ 0 < k ∧ ((c.toNat : Int) == 0) = false) ∨
                  (((k : Int) == 9) = false ∧ True ∧ 0 < k ∧ ((c.toNat : Int) == 0) = false) ∨ (((k : Int) == 9) = false ∧ True ∧ ¬ 0 < k ∧ True) := by
                by_cases h9 : k = 9
                · exact .inl ⟨by simp; omega, by simp; omega, by omega, by simp; omega⟩
                · by_cases h0 : 0 < k
                  · exact .inr (.inl ⟨by simp; omega, trivial, h0, by simp; omega⟩)
                  · exact .inr (.inr ⟨by simp; omega, trivial, h0, trivial⟩)
              have hlk : L.length - (k + 1) ≤ L.length := by omega
              have hck2 : L.length - (k + 1) ≤ cap - (k + 1) := by omega
              clear hb1 hb2 hb3 HN hn0 hpow
              generalize hq : c.toNat % 128 = m at *
              have hm : m < 128 := by omega
              clear hq hu0
              rcases hcap with ⟨hcap, hL1⟩ | hcap
              · have hdn : L.drop (k + 1) = [] := List.eq_nil_of_length_eq_zero (by omega)
                rw [hdn] at HVS
                clear hcut hdl hdn hck2 hlk
                rcases hways with ⟨e3, e4, e5, e6⟩ | ⟨e3, e4, e5, e6⟩ | ⟨e3, e4, e5, e6⟩
                all_goals
                  go_wp2_with fail
                  refine (hsg _).mono ?_
                  rintro e w1 ⟨rfl, rfl⟩
                  go_wp2_with fail
                  simp only [Exit.jump]
                  go_ret
                  exact ⟨by rw [HVS.out.1]; rfl, by rw [HVS.out.2]; exact HR.out.cut (L := []) (by simp) (by simp) (BsN.nil _ _ _), (Only.refl _ _).setCell 0 _⟩
              · rw [if_neg hcap] at hcut
                have HCUT := Lib.hid hcut
                have HDL := Lib.hid hdl
                have HLK := Lib.hid hlk
                have HCK := Lib.hid hck2
                clear hcut hdl hlk hck2
                rcases hways with ⟨e3, e4, e5, e6⟩ | ⟨e3, e4, e5, e6⟩ | ⟨e3, e4, e5, e6⟩
                all_goals
                  go_wp2_with fail
                  refine (hsg _).mono ?_
                  rintro e w1 ⟨rfl, rfl⟩
                  go_wp2_with fail
                  simp only [Exit.jump]
                  go_ret
                  exact ⟨by rw [HVS.out.1]; rfl, by rw [HVS.out.2, ← HDL.out]; exact HR.out.cut (by rw [HDL.out]; exact HLK.out) (by rw [HDL.out]; exact HCK.out) HCUT.out, (Only.refl _ _).setCell 0 _⟩
      · have HN := Lib.hid (rd_short (show k = L.length by omega) hrd)
        obtain rfl : k = L.length := by omega
        clear hrd hx hx63
        obtain HVS := Lib.hid (st_none HN.out hst.out)
        clear hst
        go_wp2_with fail
        go_step3
        go_wp2_with fail
        refine hf.mono ?_
        rintro e w1 ⟨rfl, hR, hO⟩
        go_wp2_with fail
        simp only [Exit.jump]
        go_ret
        exact ⟨by rw [HVS.out.1]; rfl, by rw [HVS.out.2]; exact hR, hO⟩
  · rintro a' w' ⟨⟨rfl, u1, u2, u3, u4, u5, u6, u7, u8, u9, u10, u11, u12, u13, u14, u15, u16, u17, u18, u19, u20, u21, u22, u23, u24, u25, u26, u27, u28, u29, u30, u31, u32, u33, u34, u35, u36, u37, u38, u39, u40, u41, u42, u43, u44, u45, u46, u47, u48, u49, u50, u51, u52, rfl⟩, hn⟩
    have HVS := Lib.hid (st_none hn hst.out)
    clear hn
    go_wp2_with fail
    refine hf.mono ?_
    rintro e w1 ⟨rfl, hR, hO⟩
    go_wp2_with fail
    simp only [Exit.jump]
    go_ret
    exact ⟨by rw [HVS.out.1]; rfl, by rw [HVS.out.2]; exact hR, hO⟩
theorem int_any (N g : Nat) (s : St) (w : World) (h : Rd N w g s) :
    Calls Tryd.prog 66 #[.pointer (some ⟨g, 0, none⟩)] w (Left N w g (.int .i64 (stI s).1) (stI s).2) :=
  int_at N g s (stI s).2 (stI s).1 w h (Lib.hid rfl)
end Go.Proofs.YtfcigknalnmhcaaDoor
