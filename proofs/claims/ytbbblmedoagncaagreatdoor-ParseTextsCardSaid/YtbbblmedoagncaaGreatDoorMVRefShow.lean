/- The contract of the document's own Quote (chapter 5's). -/
import Derived.Test.YtbbblmedoagncaaGreatDoorGA
import Derived.Test.YtbbblmedoagncaaGreatDoorGE
import Derived.Test.YtbbblmedoagncaaGreatDoorGB
import Derived.Deep.QuietTactic
import Derived.BigQuiet
import Derived.IntWalk
namespace Go.Proofs.YtbbblmedoagncaaGreatDoor
/- The contract of the document's own Quote, of a text of runes of at most 400 bytes. -/
section
open Go.RowKit Go.Lib

def RQRel (w1 : World) (P : List Pc) (k : Nat) (M : List UInt8) (wr : World) : Prop := k ≤ P.length ∧ M = (P.take k).flatMap (fun x => quoteR x.1) ∧ M.length ≤ 6 * k ∧ Below w1.heap.size w1 wr
theorem RQRel.next {w1 wr w2 : World} {P : List Pc} {k : Nat} {M N : List UInt8} {x : Pc} (h : RQRel w1 P k M wr) (hx : P[k]? = some x) (hN : quoteR x.1 = N) (hl : N.length ≤ 6) (hb : Below w1.heap.size w1 w2) : RQRel w1 P (k + 1) (M ++ N) w2 := by
  obtain ⟨h1, h2, h3, h4⟩ := h
  refine ⟨(List.getElem?_eq_some_iff.1 hx).1, ?_, by rw [List.length_append]; omega, hb⟩
  rw [List.take_add_one, hx, h2, ← hN]; simp
theorem below_dr {B : Nat} {a w : World} (h : Below B a w) (q : Nat) : Below B a (w.drewN q) := ⟨h.os, h.tape, h.output, h.size, h.block⟩
theorem hex_all (M : List UInt8) (a b : UInt8) : (⟨(34 :: (M ++ [92, 117, 48, 48])).toArray⟩ : ByteArray) ++ (⟨#[a]⟩ : ByteArray) ++ (⟨#[b]⟩ : ByteArray) = ⟨(34 :: (M ++ [92, 117, 48, 48, a, b])).toArray⟩ := by apply ByteArray.ext; simp
theorem flat_at {P : List Pc} {k : Nat} {x : Pc} (h : P[k]? = some x) : flat P = flat (P.take k) ++ (x.2 ++ flat (P.drop (k + 1))) := by
  obtain ⟨hl, rfl⟩ := List.getElem?_eq_some_iff.1 h
  rw [← flat_cons, ← flat_append, ← List.drop_eq_getElem_cons hl, List.take_append_drop]
theorem part_at {s : ByteArray} {P : List Pc} (hf : flat P = s.data.toList) {k : Nat} {x : Pc} (h : P[k]? = some x) :
    (flat (P.take k)).length + x.2.length ≤ s.size ∧ s.extract (flat (P.take k)).length ((flat (P.take k)).length + x.2.length) = ⟨x.2.toArray⟩ := by
  have e := flat_at h
  rw [hf] at e
  have hl := congrArg List.length e
  rw [size_list, List.length_append, List.length_append] at hl
  refine ⟨by omega, ?_⟩
  apply ByteArray.ext
  apply Array.toList_inj.1
  rw [Lib.extract_data, e, List.drop_left, Nat.add_sub_cancel_left, List.take_left]
theorem appl_any (a b : List UInt8) : (⟨a.toArray⟩ : ByteArray) ++ (⟨b.toArray⟩ : ByteArray) = ⟨(a ++ b).toArray⟩ := by apply ByteArray.ext; simp
set_option maxHeartbeats 4000000 in
set_option maxRecDepth 100000 in
theorem refquote_any (s : ByteArray) (w : World) (hs : s.size ≤ 400) (hv : validL s.data.toList = true) :
    Calls Tryz.prog 37 #[.string s] w fun e w' => e = .returned (.string ⟨(quoteL s.data.toList).toArray⟩) ∧ Below w.heap.size w w' := by
  obtain ⟨P, hP⟩ : ∃ P, pcs s.data.toList = P := ⟨_, rfl⟩
  have HFL := Lib.hid (show flat P = s.data.toList by rw [← hP]; exact flat_pcs _)
  have cP := pieces_P s P hP w (by omega)
  have hPs := pieces_len s P hP
  have hpr := piece_rune s.data.toList hv
  have hq : quoteL s.data.toList = 34 :: (P.flatMap (fun x => quoteR x.1) ++ [34]) := by unfold quoteL quoteM; rw [hP]
  have hsc := piece_scalar s.data.toList
  rw [hP] at hpr hsc
  rw [hq]
  have HPR := Lib.hid hpr
  have HSC := Lib.hid hsc
  clear hq hP hpr hsc hv
  go_enter Tryz.func37, Tryz.ntmps37
  go_wp2_with fail
  refine cP.mono ?_
  rintro e w1 ⟨ao, cap, rfl, hnc, b1, hg⟩
  have HG := Lib.hid hg
  have h0 : RQRel w1 P 0 [] w1 := ⟨Nat.zero_le _, rfl, Nat.le_refl _, Below.refl _ _⟩
  have H0 := Lib.hid h0
  clear cP hg h0
  go_wp2_with fail
  go_loopw [5, 3] (fun iv tv wr => ∃ k M, RQRel w1 P k M wr ∧ iv = .int .i64 (k : Int) ∧ tv = .string ⟨(34 :: M).toArray⟩) (fun iv _ _ => P.length - (Go.RowKit.intOf iv).toNat)
  case atStart => exact ⟨0, [], H0.out, rfl, rfl⟩
  case round =>
    obtain ⟨k, M, hQ, rfl, rfl⟩ := hrel
    have hbr := hQ.2.2.2
    have hMl := hQ.2.2.1
    have hk := hQ.1
    have HQ := Lib.hid hQ
    clear hQ H0
    by_cases hlt : k < P.length
    · obtain ⟨g, rfl, hgl, hcells⟩ := HG.out (by omega)
      obtain ⟨x, hPx⟩ : ∃ x, P[k]? = some x := ⟨_, List.getElem?_eq_getElem hlt⟩
      obtain ⟨hx0, hx1, hx2, -⟩ := hcells k x hPx
      have hm := List.mem_of_getElem? hPx
      have hS := HSC.out x hm
      have hR := HPR.out x hm
      have y0 := (hbr.cell (p := ⟨g, k * 4, none⟩) hgl).trans hx0
      have y1 := (hbr.cell (p := ⟨g, k * 4 + 1, none⟩) hgl).trans hx1
      have y2 := (hbr.cell (p := ⟨g, k * 4 + 2, none⟩) hgl).trans hx2
      have hkz : (k : Int) < (P.length : Int) := by omega
      obtain ⟨r, hr⟩ : ∃ r : Nat, x.1 = r := ⟨_, rfl⟩
      rw [hr] at hS hR y2
      have cB := fun w => refBytes_any (r : Int) w hS
      by_cases h1 : r = 34 ∨ r = 92
      · have e1 := quoteR_sign h1
        have h4 := enc_four r
        have hnx : ∀ w2, Below w1.heap.size w1 w2 → RQRel w1 P (k + 1) (M ++ (92 :: encodeRune (r : Int))) w2 := fun w2 hb => HQ.out.next hPx (by rw [hr]; exact e1) (by rw [List.length_cons]; omega) hb
        have HNX := Lib.hid hnx
        have a1 := appl_any (34 :: M) [92]
        have a2 := appl_any (34 :: M ++ [92]) (encodeRune (r : Int))
        have a3 : 34 :: M ++ [92] ++ encodeRune (r : Int) = 34 :: (M ++ (92 :: encodeRune (r : Int))) := by simp
        rw [a3] at a2
        have hr1 : (((r : Int) == 34) || ((r : Int) == 92)) = true := by
          rcases h1 with rfl | rfl <;> rfl
        clear hcells hx0 hx1 hx2 hnx e1 hR a3
        obtain ⟨E, hE⟩ : ∃ E, encodeRune (r : Int) = E := ⟨_, rfl⟩
        simp only [hE] at cB a2 HNX h4
        clear hE
        have hov : ¬ 9223372036854775807 < M.length + 1 + 1 + E.length := by omega
        have hov2 : ¬ 9223372036854775807 < M.length + 1 + 1 := by omega
        rcases h1 with rfl | rfl
        all_goals
          go_wp2_with fail
          refine (cB _).mono ?_
          rintro e w2 ⟨rfl, hb2⟩
          have hb3 := below_to hbr hb2
          go_wp2_with fail
          exact ⟨⟨k + 1, _, HNX.out _ hb3, rfl, congrArg Value.string a2⟩, by simp only [Go.RowKit.intOf]; omega⟩
      · by_cases h2 : Ctrl r
        · have e1 := quoteR_ctrl h1 h2
          have hnx : ∀ q, RQRel w1 P (k + 1) (M ++ [92, 117, 48, 48, hx (r / 16), hx (r % 16)]) (wr.drewN q) := fun q => HQ.out.next hPx (by rw [hr]; exact e1) (by simp) (below_dr hbr q)
          have HNX := Lib.hid hnx
          have hc : r < 32 ∨ (127 ≤ r ∧ r ≤ 159) := h2
          have d1 := one_hex ⟨r / 16, by omega⟩
          have d2 := one_hex ⟨r % 16, Nat.mod_lt _ (by omega)⟩
          dsimp only at d1 d2
          have hn1 : ((r : Int) == 34) = false := beq_eq_false_iff_ne.2 (by omega)
          have hn2 : ((r : Int) == 92) = false := beq_eq_false_iff_ne.2 (by omega)
          have hov : ¬ 9223372036854775807 < M.length + 1 + 6 := by omega
          have hrz : (r : Int) ≤ 159 := by omega
          have a1 := appl_any (34 :: M) [92, 117, 48, 48]
          clear hcells hx0 hx1 hx2 hnx e1 hR h2
          rcases hc with hc | ⟨hc1, hc2⟩
          · have hz : (r : Int) < 32 := by omega
            go_wp2_with fail
            go_quiet (fail)
            go_wp2_with fail
            exact ⟨⟨k + 1, _, HNX.out _, rfl, congrArg Value.string (hex_all M _ _)⟩, by simp only [Go.RowKit.intOf]; omega⟩
          · have hz : ¬ (r : Int) < 32 := by omega
            have hz2 : (127 : Int) ≤ (r : Int) := by omega
            go_wp2_with fail
            go_quiet (fail)
            go_wp2_with fail
            exact ⟨⟨k + 1, _, HNX.out _, rfl, congrArg Value.string (hex_all M _ _)⟩, by simp only [Go.RowKit.intOf]; omega⟩
        · have e1 := quoteR_else h1 h2
          obtain ⟨E, hE⟩ : ∃ E, encodeRune (r : Int) = E := ⟨_, rfl⟩
          have h4 := enc_four r
          obtain ⟨hp1, hp2⟩ := part_at HFL.out hPx
          rw [hE] at hR
          rw [hR] at hp1 hp2 y1
          rw [hE] at e1 h4
          have hnx : ∀ q, RQRel w1 P (k + 1) (M ++ E) (wr.drewN q) := fun q => HQ.out.next hPx (by rw [hr]; exact e1) (by omega) (below_dr hbr q)
          have HNX := Lib.hid hnx
          generalize (flat (P.take k)).length = a at hp1 hp2 y0 hx0
          have hn1 : ((r : Int) == 34) = false := beq_eq_false_iff_ne.2 (by omega)
          have hn2 : ((r : Int) == 92) = false := beq_eq_false_iff_ne.2 (by omega)
          have hov : ¬ 9223372036854775807 < M.length + 1 + E.length := by omega
          have hw : IntKind.i64.wrap ((a : Int) + (E.length : Int)) = (a : Int) + (E.length : Int) := IntWalk.i64_in _ (by omega)
          have hi0 : (0 : Int) ≤ (a : Int) + (E.length : Int) := by omega
          have hin : ((a : Int) + (E.length : Int)).toNat = a + E.length := by omega
          have hap := appl_any (34 :: M) E
          unfold Ctrl at h2
          clear hcells hx0 hx1 hx2 hnx e1 hR hE
          by_cases hc : r < 32
          · exact absurd (Or.inl hc) h2
          · have hz : ¬ (r : Int) < 32 := by omega
            by_cases hc1 : 127 ≤ r
            · have hz2 : (127 : Int) ≤ (r : Int) := by omega
              have hz3 : ¬ (r : Int) ≤ 159 := by omega
              go_wp2_with fail
              go_quiet (fail)
              go_wp2_with fail
              exact ⟨⟨k + 1, _, HNX.out _, rfl, rfl⟩, by simp only [Go.RowKit.intOf]; omega⟩
            · have hz2 : ¬ (127 : Int) ≤ (r : Int) := by omega
              go_wp2_with fail
              go_quiet (fail)
              go_wp2_with fail
              exact ⟨⟨k + 1, _, HNX.out _, rfl, rfl⟩, by simp only [Go.RowKit.intOf]; omega⟩
    · have hkz : ¬ ((k : Int) < (P.length : Int)) := by omega
      have hend : (34 :: M) ++ [34] = 34 :: (P.flatMap (fun x => quoteR x.1) ++ [34]) := by
        rw [HQ.out.2.1, List.take_of_length_le (by omega)]; rfl
      have hap := appl_any (34 :: M) [34]
      rw [hend] at hap
      have HAP := Lib.hid hap
      have hbw := below_to b1 hbr
      clear hap hend
      have hov : ¬ 9223372036854775807 < M.length + 1 + 1 := by omega
      go_wp2_with fail
      go_ret
      exact ⟨congrArg (fun b => Ending.returned (Value.string b)) HAP.out, hbw⟩
end
end Go.Proofs.YtbbblmedoagncaaGreatDoor
