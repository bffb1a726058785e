/- The statement FrameCuts: frames cut anywhere tell just those that are whole. Conditions: none. -/
import Derived.Test.YtpkbjiakjofcnaaFLaid
namespace Go.Proofs.Ytpkbjiakjofcnaa
open Go.ChangeShapes Go.WideShapes Go.ChangeAt Go.RowKit

theorem row_form {w : World} {B e n : Nat} {v : Value} {xs : List Value} (h : w.ownsRow B e 1 v n xs) : ∃ A cap, v = .slice A n cap ∧ n ≤ cap ∧ (0 < n → ∃ g, A = some ⟨g, 0, none⟩ ∧ g < w.heap.size ∧ ∀ j u, xs[j]? = some u → w.cell? ⟨g, j, none⟩ = some u) := by
  have h2 := h
  rcases h.2 with ⟨rfl, hn⟩ | ⟨g, cap, cur, rfl, _, hgb, hc, _⟩
  · subst hn; exact ⟨none, 0, rfl, Nat.le_refl _, fun h => absurd h (by decide)⟩
  · refine ⟨_, cap, rfl, hc, fun _ => ⟨g, rfl, (Array.getElem?_eq_some_iff.1 hgb).1, fun j u hj => ?_⟩⟩
    have := h2.cells (g := g) rfl j u hj
    rwa [add_plain, Nat.zero_add] at this
theorem ends_at {bs : List (List UInt8)} {j : Nat} (h : j < bs.length) : (endsV bs)[j]? = some (.int .i64 (pos bs (j + 1) : Int)) := by
  unfold endsV
  rw [List.getElem?_map, List.getElem?_range h]
  rfl
theorem pos_take {bs : List (List UInt8)} {n : Nat} : pos (bs.take n) (bs.take n).length = pos bs n := by
  rw [pos_all]; rfl

set_option maxRecDepth 100000 in
set_option maxHeartbeats 4000000 in
theorem framecuts_walk (A : Option Addr) (S : List ByteArray) (ca : Nat) (v : Int) (w : World) (_ : S.length ≤ ca) (hT : Ts w A S) (hs : S.length ≤ 140737488351232) (hv0 : -9223372036854775808 ≤ v) (hv1 : v ≤ 9223372036854775807) :
    Calls Try.prog 6 #[.slice A S.length ca, .int .i64 v] w fun e w' => e = .returned (.bool true) ∧ Below w.heap.size w w' := by
  have cl := laid_any A S ca w (by omega) hT
  have hok := kept_ok S 20
  have hm20 := kept_len S 20
  have hnbs := kept_small S 20
  generalize kept S 20 = bs at *
  obtain ⟨nb, hnb⟩ : ∃ nb, (flat bs).length = nb := ⟨_, rfl⟩
  obtain ⟨m, hm⟩ : ∃ m, bs.length = m := ⟨_, rfl⟩
  rw [hnb] at hnbs
  rw [hm] at hm20
  obtain ⟨k, hk, cP⟩ := place_nat v (nb + 1) hv0 hv1 (by omega) (by omega)
  have HNB := Lib.hid hnb
  have HM := Lib.hid hm
  have HOK := Lib.hid hok
  clear hnb hm hok hT
  go_enter Try.func6, Try.ntmps6
  go_wp2_with fail
  (with_reducible refine cl.mono ?_)
  rintro e w1 ⟨b, ve, rfl, ⟨Ab, cb, rfl, hB, hn, hc⟩, hown, hb1⟩
  obtain ⟨Ae, ce, rfl, hce, hcells⟩ := row_form hown
  rw [HNB.out] at hc ⊢
  rw [HM.out] at hce hcells ⊢
  have HCE := Lib.hid hcells
  have HB := Lib.hid hB
  have HB1 := Lib.hid hb1
  have HNN := Lib.hid hn
  clear cl hown hB hb1 hcells hn
  have cP1 := cP w1
  simp only [Int.natCast_add, Int.cast_ofNat_Int] at cP1
  clear cP
  go_wp2_with fail
  (with_reducible refine cP1.mono ?_)
  rintro e w' ⟨rfl, rfl⟩
  clear cP1
  go_wp2_with fail
  go_loop [9] (fun i => ∃ n : Nat, n ≤ m ∧ i = .int .i64 n ∧ pos bs n ≤ k) (fun i => m - (intOf i).toNat)
  case atStart => exact ⟨0, Nat.zero_le _, rfl, Nat.zero_le _⟩
  case round =>
    obtain ⟨n, hnm, rfl, hpk⟩ := hrel
    have hexit : (n < m ∧ pos bs (n + 1) ≤ k) ∨ (n < m ∧ k < pos bs (n + 1)) ∨ n = m := by omega
    rcases hexit with ⟨h1, h2⟩ | h3
    · obtain ⟨g, rfl, _, hcl⟩ := HCE.out (by omega)
      have hcn := hcl n _ (ends_at (by rw [HM.out]; exact h1))
      clear hcl
      go_wp2_with fail
      go_round
      case rel => exact ⟨n + 1, h1, by go_num, h2⟩
      case measure => simp [intOf]; omega
    · have HX : Hid (n < m → k < pos bs (n + 1)) := fun h => by rcases h3 with ⟨_, h⟩ | h <;> omega
      have hkb : k ≤ nb := by omega
      obtain ⟨R, hF⟩ := frs_cut HOK.out (k := k) (n := n) (by rw [HM.out]; exact hnm) hpk (by rw [HM.out]; exact HX.out)
      have hlen : ((flat bs).take k).length = k := by rw [List.length_take, HNB.out]; omega
      have htl : (bs.take n).length = n := by rw [List.length_take, HM.out]; omega
      have hBk := bs_take HB.out k
      have ca1 := all_any Ab ((flat bs).take k) R (bs.take n) cb 1000 w1 hF (by rw [hlen]; omega) (by rw [htl]; omega) (by omega) hBk HNN.out
      have hmin : min 1000 (bs.take n).length = n := by rw [htl]; omega
      rw [hlen, hmin] at ca1
      simp only [Int.cast_ofNat_Int] at ca1
      have ce1 := fun w2 (hb : Bs w2 Ab ((flat bs).take k)) => ends_any Ab ((flat bs).take k) R (bs.take n) cb w2 hF (by rw [hlen]; omega) (by rw [hlen]; omega) hb
      have hwhole : wholeB ((flat bs).take k) (bs.take n) = decide (pos bs n = k) := by unfold wholeB; rw [pos_take, hlen]
      rw [hlen, hwhole, pos_take] at ce1
      have hdk : ((k : Int) == (pos bs n : Int)) = decide (pos bs n = k) := by
        rw [Bool.eq_iff_iff, beq_iff_eq, decide_eq_true_iff]; omega
      have hlast : (n = 0 ∧ pos bs n = 0) ∨ ∃ n', n = n' + 1 := by
        rcases Nat.eq_zero_or_pos n with rfl | h
        · exact .inl ⟨rfl, rfl⟩
        · exact .inr ⟨n - 1, by omega⟩
      have HBK := Lib.hid hBk
      have HCA := Lib.hid ca1
      have HCX := Lib.hid ce1
      have HDK := Lib.hid hdk
      clear hF hlen htl hBk hmin hwhole ca1 ce1 hdk HB
      rcases h3 with ⟨h3, h4⟩ | rfl
      · obtain ⟨g, rfl, _, hcl⟩ := HCE.out (by omega)
        have hcn := hcl n _ (ends_at (by rw [HM.out]; exact h3))
        clear hcl
        go_wp2_with fail
        (with_reducible refine HCA.out.mono ?_)
        rintro e w2 ⟨v1, v2, rfl, _, ho2, hb2⟩
        obtain ⟨A2, c2, rfl, _, _⟩ := row_form ho2
        have HQ2 := Lib.hid (HB1.out.trans (hb2.mono HB1.out.size))
        have hbk2 := HBK.out.below hb2
        have HCE2 := Lib.hid (fun (h : 0 < n) => by
          obtain ⟨g, e, hg, hcl⟩ := HCE.out (by omega)
          exact (⟨g, e, (hb2.cell (p := ⟨g, n - 1, none⟩) hg).trans (hcl (n - 1) _ (ends_at (by rw [HM.out]; omega))), Nat.lt_of_lt_of_le hg hb2.size⟩ : ∃ g, _ = some (⟨g, 0, none⟩ : Addr) ∧ w2.cell? ⟨g, n - 1, none⟩ = some (.int .i64 (pos bs (n - 1 + 1) : Int)) ∧ g < w2.heap.size))
        have cE := HCX.out w2 hbk2
        clear ho2 hb2 hbk2
        go_wp2_with fail
        (with_reducible refine cE.mono ?_)
        rintro e w3 ⟨rfl, hb3⟩
        have haw := awake_any w3
        have HQ3 := Lib.hid (HQ2.out.trans (hb3.mono HQ2.out.size))
        have hDK := HDK.out
        clear cE
        rcases hlast with ⟨hn0, hq0⟩ | ⟨n', hn'⟩
        · clear HCE2 hb3
          rw [hq0] at hDK ⊢
          simp only [Int.cast_ofNat_Int] at hDK ⊢
          subst hn0
          generalize decide (0 = k) = dB at *
          clear hpk hq0
          go_wp2_with fail
          (with_reducible refine haw.mono ?_)
          rintro e w4 ⟨rfl, hb4⟩
          go_wp2
          go_ret
          exact ⟨rfl, HQ3.out.trans (hb4.mono HQ3.out.size)⟩
        · obtain ⟨g2, hg1, hg2, hg3⟩ := HCE2.out (by omega)
          have hg4 := (hb3.cell (p := ⟨g2, n - 1, none⟩) hg3).trans hg2
          rw [show n - 1 + 1 = n by omega, show n - 1 = n' by omega] at hg4
          clear hg2 hg3 HCE2 hb3
          generalize hq : pos bs n = q at *
          generalize decide (q = k) = dB at *
          have HN2 := Lib.hid hn'
          have hnn : (n : Int) - 1 = (n' : Int) := by omega
          have hn0 : 0 < n := by omega
          have hn3 : n' < m := by omega
          clear hn' hq
          injection hg1 with hg1
          injection hg1 with hg1
          subst hg1
          go_wp2_with fail
          (with_reducible refine haw.mono ?_)
          rintro e w4 ⟨rfl, hb4⟩
          go_wp2
          go_ret
          exact ⟨rfl, HQ3.out.trans (hb4.mono HQ3.out.size)⟩
      · clear hnm
        go_wp2_with fail
        (with_reducible refine HCA.out.mono ?_)
        rintro e w2 ⟨v1, v2, rfl, _, ho2, hb2⟩
        obtain ⟨A2, c2, rfl, _, _⟩ := row_form ho2
        have HQ2 := Lib.hid (HB1.out.trans (hb2.mono HB1.out.size))
        have hbk2 := HBK.out.below hb2
        have HCE2 := Lib.hid (fun (h : 0 < n) => by
          obtain ⟨g, e, hg, hcl⟩ := HCE.out (by omega)
          exact (⟨g, e, (hb2.cell (p := ⟨g, n - 1, none⟩) hg).trans (hcl (n - 1) _ (ends_at (by rw [HM.out]; omega))), Nat.lt_of_lt_of_le hg hb2.size⟩ : ∃ g, _ = some (⟨g, 0, none⟩ : Addr) ∧ w2.cell? ⟨g, n - 1, none⟩ = some (.int .i64 (pos bs (n - 1 + 1) : Int)) ∧ g < w2.heap.size))
        have cE := HCX.out w2 hbk2
        clear ho2 hb2 hbk2
        go_wp2_with fail
        (with_reducible refine cE.mono ?_)
        rintro e w3 ⟨rfl, hb3⟩
        have haw := awake_any w3
        have HQ3 := Lib.hid (HQ2.out.trans (hb3.mono HQ2.out.size))
        have hDK := HDK.out
        clear cE
        rcases hlast with ⟨hn0, hq0⟩ | ⟨n', hn'⟩
        · clear HCE2 hb3
          rw [hq0] at hDK ⊢
          simp only [Int.cast_ofNat_Int] at hDK ⊢
          subst hn0
          generalize decide (0 = k) = dB at *
          clear hpk hq0
          go_wp2_with fail
          (with_reducible refine haw.mono ?_)
          rintro e w4 ⟨rfl, hb4⟩
          go_wp2
          go_ret
          exact ⟨rfl, HQ3.out.trans (hb4.mono HQ3.out.size)⟩
        · obtain ⟨g2, hg1, hg2, hg3⟩ := HCE2.out (by omega)
          have hg4 := (hb3.cell (p := ⟨g2, n - 1, none⟩) hg3).trans hg2
          rw [show n - 1 + 1 = n by omega, show n - 1 = n' by omega] at hg4
          clear hg2 hg3 HCE2 hb3
          generalize hq : pos bs n = q at *
          generalize decide (q = k) = dB at *
          have HN2 := Lib.hid hn'
          have hnn : (n : Int) - 1 = (n' : Int) := by omega
          have hn0 : 0 < n := by omega
          have hn3 : n' < n := by omega
          clear hn' hq
          subst hg1
          go_wp2_with fail
          (with_reducible refine haw.mono ?_)
          rintro e w4 ⟨rfl, hb4⟩
          go_wp2
          go_ret
          exact ⟨rfl, HQ3.out.trans (hb4.mono HQ3.out.size)⟩
set_option maxRecDepth 100000 in
theorem framecuts_lifted (os : Os) (started : os.Started) (H : Type) (enc : TypeId × Value → H) :
    ReturnsInHanded {} Try.checked os 6 .any (Rows.frameCutsSpec.pre6 enc Try.prog Try.f6 Rows.frameCutsRow.domain false) (Rows.frameCutsSpec.post enc Try.prog Try.f6 false true false false) := by
  refine returnsInHanded_of_change_sized (C := Try.checked) own started (by kernel_rfl) Try.func6
    (ChangeSpec.witness6 (enc := enc) (C := Try.checked) false ⟨#[], #[.slice none 0 0, .int .i64 0], []⟩ 8 (by kernel_rfl) (by kernel_rfl) (by kernel_rfl) (by kernel_rfl)) ?_
  intro W base args ds gs before hval0 hW _ hsz0 _
  have hsz : (DataW.weightsEach Try.prog (Try.f6.params.toList ++ Rows.frameCutsSpec.plain.varTypes Try.prog) (ds ++ gs)).all (· ≤ reachBytes) = true := hsz0
  have hval : ∀ (j : Nat) t v, Try.f6.params[j]? = some t → args[j]? = some v → Value.okWide Try.prog W .any base t v := hval0
  have hW' := hW
  obtain ⟨p, q, hA0, hV, rfl, _, _⟩ := hW
  have hA : DataW.TrodAll enc Try.prog W 0 (fun _ => true) true Try.f6.params.toList args.toList ds p := hA0
  rw [Try.params6] at hA hval hsz
  obtain ⟨v0, v1, d0, d1, p0, p1, rfl, rfl, rfl, h0, h1⟩ := trodAll_two hA
  obtain ⟨rfl, rfl⟩ := trodVars_none hV
  simp only [List.append_nil] at hW'
  have hlt0 : ∀ x ∈ p0, x.block < W.heap.size := fun x hx => hW'.lt x (by simp [hx])
  have h0k := h0
  obtain ⟨A0, L0, X0, c0, rfl, lc0, B0, hd0⟩ := open_texts Try.underlying39 Try.underlying9 (by kernel_rfl) (hval 0 39 v0 rfl rfl) h0
  have ln0 : L0.length ≤ 140737488351232 := by
    rcases hd0 with ⟨_, rfl⟩ | ⟨e, _⟩
    · simp
    · subst e
      have := sized_slice hsz (j := 0) (t := 39) (e := 9) rfl rfl Try.underlying39
      rw [show Try.prog.bytesOf 9 = 16 by kernel_rfl] at this
      simp only [strs, List.length_map, reachBytes] at this
      omega
  obtain ⟨x1, rfl, rfl, rfl, wx1⟩ := open_int Try.underlying3 (hval 1 3 v1 rfl rfl) h1
  refine (framecuts_walk A0 L0 c0 x1 W lc0 B0 ln0 (bounds_i64 wx1).1 (bounds_i64 wx1).2).mono fun e W' ⟨he, hb⟩ => ?_
  subst he
  exact ⟨_, rfl, _, _, _, [], _, [], hW', trodAll_mk1 (shut_bool Try.underlying4 _), trodAll_mk2 (Below.trod laidOut (by kernel_rfl) (of_decide_eq_true (by kernel_rfl)) h0k hb hlt0) (shut_int Try.underlying3 wx1), rfl, hb.frame _, fun h => by cases h⟩

theorem framecuts_holds : Rows.FrameCutsSaid :=
  OpenClaim.holds_of_wide 6 Try.f6 rfl rfl rfl rfl rfl rfl rfl ⟨rfl, rfl, rfl, rfl, rfl⟩ rfl rfl rfl rfl rfl (by kernel_rfl) Try.func6 (by kernel_rfl)
    (of_decide_eq_true (by kernel_rfl)) (by unfold Func.isWrapper; first | (rw [if_pos (by decide +kernel)]; kernel_rfl) | (rw [if_neg (by decide +kernel)]; exact ⟨rfl, rfl⟩))
    (fun os started H enc _ => framecuts_lifted os started H enc)
end Go.Proofs.Ytpkbjiakjofcnaa
