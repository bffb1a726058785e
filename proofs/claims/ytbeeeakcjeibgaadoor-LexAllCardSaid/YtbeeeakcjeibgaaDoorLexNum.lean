/- The contract of the document's own num: the number that begins at the next piece. -/
import Derived.Test.YtbeeeakcjeibgaaDoorLexK
namespace Go.Proofs.YtbeeeakcjeibgaaDoor
open Go.RowKit

set_option maxHeartbeats 2000000 in
set_option maxRecDepth 100000 in
theorem lnum_any (g : Nat) (t : ByteArray) (P : List Pc) (ao : Option Addr) (cap k : Nat) (x : Pc) (R : List Pc) (w : World) (h : LR w g t P ao cap k) (hs : (flat P).length = t.size) (hl : t.size ≤ 1000) (hPc : Pcd P) (hd : P.drop k = x :: R) (hx : classZ (x.1 : Int) = 2) :
    Calls Tryd.prog 26 #[.pointer (some ⟨g, 0, none⟩)] w (LTok w g t P ao cap k (numF x R)) := by
  obtain ⟨D, hD⟩ : ∃ D, (P.drop k).takeWhile isDig = D := ⟨_, rfl⟩
  have hD2 : D = x :: R.takeWhile isDig := by rw [← hD, hd, List.takeWhile_cons_of_pos (by simp [isDig, hx])]
  have hDl : D.length = 1 + (R.takeWhile isDig).length := by rw [hD2, List.length_cons]; omega
  have hDP : k + D.length ≤ P.length := by
    have h1 : D.length ≤ (P.drop k).length := by rw [← hD]; exact (List.takeWhile_prefix isDig).length_le
    have h2 := congrArg List.length hd
    rw [List.length_drop] at h1 h2
    rw [List.length_cons] at h2
    omega
  have hPl : P.length ≤ 1000 := by have := flat_len hPc.fit; omega
  have hrun := fun i => run_at hD i
  have hfit : ∀ i (hi : i < D.length), Fit D[i] := fun i hi => hPc.fit _ (List.mem_of_mem_drop (i := k) ((hD ▸ List.takeWhile_prefix isDig : D <+: P.drop k).subset (List.getElem_mem hi)))
  have hnum : numF x R = if valN (flat D) < 9223372036854775808 then some ⟨1, [], valN (flat D), D.length - 1⟩ else none := by
    unfold numF; rw [← hD2, hDl, Nat.add_sub_cancel_left]
  obtain ⟨O, hO⟩ : ∃ O, numF x R = O := ⟨_, rfl⟩
  rw [hO] at hnum ⊢
  obtain ⟨here, hh⟩ : ∃ n : Nat, (flat (P.take k)).length = n := ⟨_, rfl⟩
  have HH := Lib.hid hh
  have HO := Lib.hid hnum
  have HR := Lib.hid hrun
  have HF := Lib.hid hfit
  have hgl := h.lt
  have hA0 := (LA.start h).alloc (.cells #[.int .i64 0, .string ⟨#[]⟩, .int .i64 0, .int .i64 0] 32)
  have hr0 := four_new w (.int .i64 0) (.string ⟨#[]⟩) (.int .i64 0) (.int .i64 0) 32
  have hs0 : w.heap.size < (w.alloc (.cells #[.int .i64 0, .string ⟨#[]⟩, .int .i64 0, .int .i64 0] 32)).heap.size := hr0.lt
  obtain ⟨w0, hw0⟩ : ∃ w0, w.alloc (.cells #[.int .i64 0, .string ⟨#[]⟩, .int .i64 0, .int .i64 0] 32) = w0 := ⟨_, rfl⟩
  rw [hw0] at hA0 hr0 hs0
  have cH := lhere_any g t P ao cap k w0 hA0.1 hs
  rw [hh] at cH
  have HA := Lib.hid hA0
  clear h hd hD hx hO hnum hrun hfit hA0 hs hD2 hh
  go_enter Tryd.func26, Tryd.ntmps26
  go_wp2_with fail
  refine cH.mono ?_
  rintro e w1 ⟨rfl, q, rfl⟩
  clear hw0
  have hA1 := HA.out.later (below_still ⟨q, rfl⟩)
  have hr1 := hr0.later (below_still ⟨q, rfl⟩)
  have hs1 : w.heap.size < (w0.drewN q).heap.size := hr1.lt
  generalize hw1 : w0.drewN q = w1 at *
  clear hw1 hr0 hs0 HA cH
  go_upto_region 2 with fail
  have hb2 := below_alloc w1 (.cells #[.int .i64 1, .string ⟨#[]⟩, .int .i64 0, .int .i64 (here : Int)] 32)
  have hA2 := hA1.later hb2
  have hF2 : Two4 w _ w1.heap.size w.heap.size (.int .i64 1) (.string ⟨#[]⟩) (.int .i64 0) (.int .i64 (here : Int)) := ⟨Nat.le_of_lt hs1, Nat.le_refl _, by omega, four_new w1 (.int .i64 1) (.string ⟨#[]⟩) (.int .i64 0) (.int .i64 (here : Int)) 32, hr1.later hb2⟩
  generalize hw2 : w1.alloc (.cells #[.int .i64 1, .string ⟨#[]⟩, .int .i64 0, .int .i64 (here : Int)] 32) = w2 at *
  generalize hbb : w1.heap.size = b at *
  clear hw2 hb2 hA1 hr1 hs1 hbb
  have HA := Lib.hid hA2
  have HF2 := Lib.hid hF2
  have h0 : NumAt D 0 0 true := ⟨Nat.zero_le _, by decide, .inl ⟨rfl, rfl⟩⟩
  have H0 := Lib.hid h0
  clear hA2 hF2 h0
  go_wp2_with fail
  go_loopg [5] (D.length) (fun n s5 wr => ∃ (i N : Nat) (ok : Bool), i + n = D.length ∧ s5 = .bool ok ∧ Hid (LA w wr g t P ao cap (k + i)) ∧ Hid (Two4 w wr b w.heap.size (.int .i64 1) (.string ⟨#[]⟩) (.int .i64 (N : Int)) (.int .i64 (here : Int))) ∧ Hid (NumAt D i N ok))
  case atStart => exact ⟨0, 0, true, by omega, rfl, HA, HF2, H0⟩
  case round =>
    obtain ⟨i, N, ok, hin, rfl, HA3, HF3, HN⟩ := hrel
    clear HA HF2 H0
    have cC := lclass_any g t P ao cap (k + i) wr HA3.out.1
    obtain ⟨c0, c1, c2, f2⟩ := HA3.out.1.cells
    obtain ⟨lo, lo2, hne, ⟨tl, t0, t1, t2, t3, tf0, tf1, tf2, tf3⟩, ⟨rl, z0, z1, z2, z3, f0, f1, f2', f3⟩⟩ := HF3.out
    by_cases hi : i < D.length
    · obtain ⟨hdr, hdg⟩ := (HR.out i).1 hi
      have hdc : classZ (D[i].1 : Int) = 2 := by simpa [isDig] using hdg
      have hdi := dig_in hdc
      obtain ⟨hpx, -, hkl⟩ := at_drop hdr
      obtain ⟨bb, rfl, -, -, p2, -⟩ := HA3.out.1.piece hpx
      rw [hdr] at cC
      simp only [clsY, hdc] at cC
      have hfx := HF.out i hi
      have hgx : D[i]? = some D[i] := List.getElem?_eq_getElem hi
      generalize D[i] = y at *
      obtain ⟨d, hdd⟩ : ∃ d, y.1 = 48 + d := ⟨y.1 - 48, by omega⟩
      have hover := fun hN => HN.out.over hgx hfx hdi hN
      have hmore := fun hN => HN.out.more hgx hfx hdi hN
      rw [hdd, Nat.add_sub_cancel_left] at hover hmore
      obtain ⟨r, hr⟩ : ∃ r : Int, (y.1 : Int) = r := ⟨_, rfl⟩
      rw [hr] at p2
      have hd9 : d ≤ 9 := by omega
      have hNb := HN.out.2.1
      have hsub : r - 48 = (d : Int) := by omega
      have hr0 : 48 ≤ r := by omega
      have hr1 : r ≤ 57 := by omega
      have HO1 := Lib.hid hover
      have HM1 := Lib.hid hmore
      clear hover hmore hdr hdg hdc hdi hpx hfx hgx hdd hr
      by_cases hov : (9223372036854775807 - d) / 10 < N
      · have hovz : (9223372036854775807 - (d : Int)) / 10 < (N : Int) := by omega
        have hN2 := Lib.hid (HO1.out hov)
        clear HO1 HM1 hov
        go_wp2_with fail
        refine cC.mono ?_
        rintro e w4 ⟨rfl, q4, rfl⟩
        clear cC
        go_wp2_with fail
        go_quiet (fail)
        go_wp2_with fail
        go_roundg (gk - 1)
        case measure => omega
        case rel =>
          refine ⟨i + 1, N, false, by omega, rfl, Lib.hid ?_, Lib.hid ?_, hN2⟩
          · first
            | exact (HA3.out.q _).goes (by omega) (by omega)
            | exact ((HA3.out.q _).q _).goes (by omega) (by omega)
          · first
            | exact (HF3.out.q _).goes hgl _
            | exact ((HF3.out.q _).q _).goes hgl _
      · have hovz : ¬ (9223372036854775807 - (d : Int)) / 10 < (N : Int) := by omega
        obtain ⟨hsm, hN2⟩ := HM1.out hov
        have HN2 := Lib.hid hN2
        clear HO1 HM1 hov hN2
        go_wp2_with fail
        refine cC.mono ?_
        rintro e w4 ⟨rfl, q4, rfl⟩
        clear cC
        go_wp2_with fail
        go_quiet (fail)
        go_wp2_with fail
        go_roundg (gk - 1)
        case measure => omega
        case rel =>
          refine ⟨i + 1, N * 10 + d, ok, by omega, rfl, Lib.hid ?_, Lib.hid ?_, HN2⟩
          · first
            | exact ((HA3.out.q _).put lo 2 _).goes (by omega) (by omega)
            | exact (((HA3.out.q _).q _).put lo 2 _).goes (by omega) (by omega)
          · push_cast
            first
            | exact ((HF3.out.q _).num _).goes hgl _
            | exact (((HF3.out.q _).q _).num _).goes hgl _
    · have hiD : i = D.length := by have := HN.out.1; omega
      have hno : clsY (P.drop (k + i)) ≠ 2 := by
        have h2 := (HR.out i).2 hiD
        cases hY : P.drop (k + i) with
        | nil => decide
        | cons y Y =>
          have := h2 y (by rw [hY]; rfl)
          unfold isDig at this
          exact of_decide_eq_false this
      obtain ⟨c, hc⟩ : ∃ c, clsY (P.drop (k + i)) = c := ⟨_, rfl⟩
      rw [hc] at cC hno
      have hnz : (c == 2) = false := beq_eq_false_iff_ne.2 hno
      have hNb := HN.out.2.1
      have hfin := HN.out.2.2
      rw [hiD, List.take_length] at hfin
      have HFI := Lib.hid hfin
      have HAF := Lib.hid HA3.out
      clear hno hc hfin HN
      go_wp2_with fail
      refine cC.mono ?_
      rintro e w4 ⟨rfl, q4, rfl⟩
      clear cC
      go_wp2_with fail
      have hAE := ((((HAF.out.q q4).put lo2 0 (.int .i64 1)).put lo2 1 (.string ⟨#[]⟩)).put lo2 2 (.int .i64 (N : Int))).put lo2 3 (.int .i64 (here : Int))
      exact bodyPost_ret (v := .tuple #[T4 1 ⟨#[]⟩ N here, .bool ok]) (by simp [results, Tryd.results26, go_sem, z0, z1, z2, z3]) rfl ⟨hAE.2.1, by
        rw [HO.out]
        rcases HFI.out with ⟨rfl, hv⟩ | ⟨rfl, hv⟩
        · rw [← hv, if_pos hNb, HH.out]
          refine ⟨rfl, ?_⟩
          show LR _ g t P ao cap (k + 1 + (D.length - 1))
          rw [show k + 1 + (D.length - 1) = k + i by omega]
          exact hAE.1
        · rw [if_neg (by omega), HH.out]
          exact ⟨_, _, _, rfl⟩⟩
end Go.Proofs.YtbeeeakcjeibgaaDoor
