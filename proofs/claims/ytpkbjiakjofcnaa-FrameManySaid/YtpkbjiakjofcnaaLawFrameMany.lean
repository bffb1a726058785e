/- The statement FrameMany: bodies in frames come back in order, one behind the other, with their places. Conditions: none. -/
import Derived.Test.YtpkbjiakjofcnaaFLaid
namespace Go.Proofs.Ytpkbjiakjofcnaa
open Go.ChangeShapes Go.WideShapes Go.ChangeAt Go.RowKit

theorem row_form {w : World} {B e n : Nat} {v : Value} {xs : List Value} (h : w.ownsRow B e 1 v n xs) : ∃ A cap, v = .slice A n cap ∧ n ≤ cap ∧ (0 < n → ∃ g, A = some ⟨g, 0, none⟩ ∧ g < w.heap.size ∧ ∀ j u, xs[j]? = some u → w.cell? ⟨g, j, none⟩ = some u) := by
  have h2 := h
  rcases h.2 with ⟨rfl, hn⟩ | ⟨g, cap, cur, rfl, _, hgb, hc, _⟩
  · subst hn; exact ⟨none, 0, rfl, Nat.le_refl _, fun h => absurd h (by decide)⟩
  · refine ⟨_, cap, rfl, hc, fun _ => ⟨g, rfl, (Array.getElem?_eq_some_iff.1 hgb).1, fun j u hj => ?_⟩⟩
    have := h2.cells (g := g) rfl j u hj
    rwa [add_plain, Nat.zero_add] at this
theorem ends_at {bs : List (List UInt8)} {j : Nat} (h : j < bs.length) : (endsV bs)[j]? = some (.int .i64 (pos bs (j + 1) : Int)) := by
  unfold endsV
  rw [List.getElem?_map, List.getElem?_range h]
  rfl

theorem kept_prefix {S : List ByteArray} {i : Nat} (h : i ≤ 20) : kept S i <+: kept S 20 := by
  unfold kept
  refine List.IsPrefix.map _ (List.IsPrefix.filter _ ?_)
  have e : S.take i = (S.take 20).take i := by rw [List.take_take]; congr 1; omega
  rw [e]
  exact List.take_prefix _ _
theorem text_back (s : ByteArray) : (⟨s.data.toList.toArray⟩ : ByteArray) = s := by cases s; simp
theorem range_at {f : Nat → Value} {m j : Nat} (h : j < m) : ((List.range m).map f)[j]? = some (f j) := by
  rw [List.getElem?_map, List.getElem?_range h, Option.map_some]

/-- What is known of the text that is the body of frame k. -/
theorem kept_at {S : List ByteArray} {i : Nat} (hi : i < S.length) (h20 : i < 20) (ho : okT S[i] = true) :
    ∃ k, (kept S i).length = k ∧ (kept S (i + 1)).length = k + 1 ∧ ∃ h : k < (kept S 20).length, (kept S 20)[k] = S[i].data.toList := by
  have h1 := kept_succ hi
  rw [if_pos ho] at h1
  obtain ⟨t, ht⟩ := kept_prefix (S := S) (i := i + 1) (by omega)
  refine ⟨_, rfl, by rw [h1, List.length_append, List.length_singleton], ?_⟩
  rw [h1] at ht
  have hl : (kept S i).length < (kept S 20).length := by rw [← ht]; simp
  refine ⟨hl, ?_⟩
  have : (kept S 20)[(kept S i).length]? = some S[i].data.toList := by
    rw [← ht]; simp
  rw [List.getElem?_eq_getElem hl] at this
  injection this

set_option maxRecDepth 100000 in
set_option maxHeartbeats 4000000 in
theorem framemany_walk (A : Option Addr) (S : List ByteArray) (ca : Nat) (w : World) (_ : S.length ≤ ca) (hT : Ts w A S) (hs : S.length ≤ 140737488351232) :
    Calls Try.prog 9 #[.slice A S.length ca] w fun e w' => e = .returned (.bool true) ∧ Below w.heap.size w w' := by
  have cl := laid_any A S ca w (by omega) hT
  have hok := kept_ok S 20
  have hm20 := kept_len S 20
  have hnbs := kept_small S 20
  obtain ⟨bs, hbs⟩ : ∃ bs, kept S 20 = bs := ⟨_, rfl⟩
  rw [hbs] at cl hok hm20 hnbs
  obtain ⟨nb, hnb⟩ : ∃ nb, (flat bs).length = nb := ⟨_, rfl⟩
  obtain ⟨m, hm⟩ : ∃ m, bs.length = m := ⟨_, rfl⟩
  rw [hnb] at hnbs
  rw [hm] at hm20
  have hF := frs_flat hok
  have HNB := Lib.hid hnb
  have HM := Lib.hid hm
  have HBS := Lib.hid hbs
  have HF := Lib.hid hF
  have HT := Lib.hid hT
  clear hnb hm hok hT hbs hF
  go_enter Try.func9, Try.ntmps9
  go_wp2_with fail
  (with_reducible refine cl.mono ?_)
  rintro e w1 ⟨b, ve, rfl, ⟨Ab, cb, rfl, hB, hn, hc⟩, hown, hb1⟩
  obtain ⟨Ae, ce, rfl, hce, hcells⟩ := row_form hown
  rw [HNB.out] at hc ⊢
  rw [HM.out] at hce hcells ⊢
  have ca1 := all_any Ab (flat bs) [] bs cb 1000 w1 HF.out (by rw [HNB.out]; omega) (by rw [HM.out]; omega) (by omega) hB hn
  have hmin : min 1000 bs.length = m := by rw [HM.out]; omega
  rw [HNB.out, hmin] at ca1
  simp only [Int.cast_ofNat_Int] at ca1
  have HCE := Lib.hid hcells
  have HB := Lib.hid hB
  have HB1 := Lib.hid hb1
  clear cl hown hB hb1 hcells hn hmin
  go_wp2_with fail
  (with_reducible refine ca1.mono ?_)
  rintro e w2 ⟨v1, v2, rfl, ho1, ho2, hb2⟩
  obtain ⟨A1, c1, rfl, hc1, hcl1⟩ := row_form ho1
  obtain ⟨A2, c2, rfl, hc2, hcl2⟩ := row_form ho2
  have HC1 := Lib.hid hcl1
  have HC2 := Lib.hid hcl2
  have HCE2 := Lib.hid (fun (h : 0 < m) => by
    obtain ⟨g, e, hg, hcl⟩ := HCE.out h
    exact (⟨g, e, Nat.lt_of_lt_of_le hg hb2.size, fun j hj => (hb2.cell (p := ⟨g, j, none⟩) hg).trans (hcl j _ (ends_at (by rw [HM.out]; exact hj)))⟩ : ∃ g, Ae = some (⟨g, 0, none⟩ : Addr) ∧ g < w2.heap.size ∧ ∀ j, j < m → w2.cell? ⟨g, j, none⟩ = some (.int .i64 (pos bs (j + 1) : Int))))
  have HB2 := Lib.hid (HB.out.below hb2)
  have HT2 := Lib.hid ((HT.out.below HB1.out).below hb2)
  have HQ2 := Lib.hid (HB1.out.trans (hb2.mono HB1.out.size))
  have hs2 : w.heap.size ≤ w2.heap.size := HQ2.out.size
  clear ca1 ho1 ho2 hb2 hcl1 hcl2 HCE HB HT HB1
  go_wp2_with fail
  go_loopw [8, 9] (fun k i wr => ∃ j : Nat, j ≤ 20 ∧ j ≤ S.length ∧ k = .int .i64 ((kept S j).length : Nat) ∧ i = .int .i64 j ∧ Below w2.heap.size w2 wr) (fun _ i _ => 20 - (intOf i).toNat)
  case atStart => exact ⟨0, by omega, by omega, by rw [kept_zero]; rfl, rfl, Below.refl _ _⟩
  case round =>
    obtain ⟨i, hi20, hiS, rfl, rfl, hbr⟩ := hrel
    by_cases hlt : i < S.length
    · by_cases hlt2 : i < 20
      · obtain ⟨ob, off, rfl, hob, hcell⟩ := txt_at HT2.out hlt
        have hcw : wr.cell? ⟨ob, off + i, none⟩ = some (.string S[i]) := (hbr.cell (p := ⟨ob, off + i, none⟩) hob).trans hcell
        have hob2 : ob < wr.heap.size := Nat.lt_of_lt_of_le hob hbr.size
        have hsucc := kept_succ hlt
        have hat := kept_at hlt hlt2
        obtain ⟨s, hsk⟩ : ∃ s, S[i] = s := ⟨_, rfl⟩
        rw [hsk] at hcw hsucc hat
        by_cases ho : okT s = true
        · have hsb := of_decide_eq_true (show decide (1 ≤ s.size ∧ s.size ≤ 2000) = true from ho)
          obtain ⟨k, hk, hk2, hkm, hbk⟩ := hat ho
          have e20 := HBS.out
          subst e20
          have hkm2 : k < m := by rw [← HM.out]; exact hkm
          have hle := HF.out.le k
          rw [HNB.out] at hle
          have cg := get_in Ab (flat (kept S 20)) cb (pos (kept S 20) k) wr (by rw [HNB.out]; omega) (by rw [HNB.out]; exact hc) (by rw [HNB.out]; exact hle) (HB2.out.below hbr)
          have hy := HF.out.yes hkm
          have eB : gB (flat (kept S 20)) (pos (kept S 20) k) = s.data.toList := by unfold gB; rw [hy, hbk]; rfl
          have eN : gN (flat (kept S 20)) (pos (kept S 20) k) = (pos (kept S 20) (k + 1) : Int) := by unfold gN; rw [hy, pos_succ hkm]
          have eE : gE (flat (kept S 20)) (pos (kept S 20) k) = 0 := by unfold gE; rw [hy]
          rw [eB, eN, eE, HNB.out] at cg
          obtain ⟨g1, rfl, hg1, hl1⟩ := HC1.out (by omega)
          obtain ⟨g2, rfl, hg2, hl2⟩ := HC2.out (by omega)
          obtain ⟨g3, rfl, hg3, hl3⟩ := HCE2.out (by omega)
          have hx1 := hl1 k _ (range_at hkm2)
          have hx2 := hl2 k _ (range_at hkm2)
          have hx3 := hl3 k hkm2
          have hx4 := fun (h : 0 < k) => hl3 (k - 1) (by omega)
          have ebk : bodyAt (kept S 20) k = s.data.toList := by unfold bodyAt; rw [List.getD_eq_getElem?_getD, List.getElem?_eq_getElem hkm, hbk]; rfl
          unfold textV at hx2
          rw [ebk, text_back] at hx2
          unfold placeV at hx1
          have HBR := Lib.hid hbr
          have HK2 := Lib.hid hk2
          have hlast : (k = 0 ∧ pos (kept S 20) k = 0) ∨ ∃ k', k = k' + 1 := by
            rcases Nat.eq_zero_or_pos k with rfl | h
            · exact .inl ⟨rfl, rfl⟩
            · exact .inr ⟨k - 1, by omega⟩
          have hp1 : pos (kept S 20) k ≤ nb := hle
          rw [hk]
          clear hl1 hl2 hl3 hy eB eN eE hbk ebk hcell hsucc hat hk hk2 hkm hsk ho hbr hle HB2 HT2 HC1 HC2 HCE2 hob
          have hy1 := (HBR.out.cell (p := ⟨g1, k, none⟩) hg1).trans hx1
          have hy2 := (HBR.out.cell (p := ⟨g2, k, none⟩) hg2).trans hx2
          have hy3 := (HBR.out.cell (p := ⟨g3, k, none⟩) hg3).trans hx3
          clear hx1 hx2 hx3
          rcases hlast with ⟨rfl, hq0⟩ | ⟨k', hk'⟩
          · rw [hq0] at hy1 hp1 cg
            simp only [Int.cast_ofNat_Int] at cg hy1
            clear hx4 hq0
            generalize pos (kept S 20) (0 + 1) = q2 at *
            go_wp2_with fail
            (with_reducible refine cg.mono ?_)
            rintro e w4 ⟨A4, cap4, rfl, hB4, _, hb4⟩
            have k1 := fun q => run_str_of (P := Try.prog) (w := w4.drewN q) 22 9 5 cap4 Try.underlying22 Try.underlying5 Try.underlying9 hB4
            rw [text_back] at k1
            have hls : s.data.toList.length = s.size := by simp
            rw [hls] at k1 ⊢
            have hz1 := (hb4.cell (p := ⟨g1, _, none⟩) (Nat.lt_of_lt_of_le hg1 HBR.out.size)).trans hy1
            have hz2 := (hb4.cell (p := ⟨g2, _, none⟩) (Nat.lt_of_lt_of_le hg2 HBR.out.size)).trans hy2
            have hz3 := (hb4.cell (p := ⟨g3, _, none⟩) (Nat.lt_of_lt_of_le hg3 HBR.out.size)).trans hy3
            have hz4 := (hb4.cell (p := ⟨ob, off + i, none⟩) hob2).trans hcw
            have HQ4 := Lib.hid (HBR.out.trans (hb4.mono HBR.out.size))
            clear hB4 hb4 cg hls hy1 hy2 hy3 hcw
            go_wp2_with fail
            go_quiet (fail)
            go_wp2_with fail
            go_roundw
            case rel => exact ⟨i + 1, by omega, by omega, by rw [HK2.out]; go_num, by go_num, below_dn HQ4.out _⟩
            case measure => simp [intOf]; omega
          · have hy5 := (HBR.out.cell (p := ⟨g3, k - 1, none⟩) hg3).trans (hx4 (by omega))
            rw [show k - 1 + 1 = k by omega, show k - 1 = k' by omega] at hy5
            clear hx4
            generalize pos (kept S 20) (k + 1) = q2 at *
            generalize pos (kept S 20) k = q1 at *
            have hkk : (k : Int) - 1 = (k' : Int) := by omega
            have hk0 : 0 < k := by omega
            have hk3 : k' < m := by omega
            have HKK := Lib.hid hk'
            clear hk'
            go_wp2_with fail
            (with_reducible refine cg.mono ?_)
            rintro e w4 ⟨A4, cap4, rfl, hB4, _, hb4⟩
            have k1 := fun q => run_str_of (P := Try.prog) (w := w4.drewN q) 22 9 5 cap4 Try.underlying22 Try.underlying5 Try.underlying9 hB4
            rw [text_back] at k1
            have hls : s.data.toList.length = s.size := by simp
            rw [hls] at k1 ⊢
            have hz1 := (hb4.cell (p := ⟨g1, _, none⟩) (Nat.lt_of_lt_of_le hg1 HBR.out.size)).trans hy1
            have hz2 := (hb4.cell (p := ⟨g2, _, none⟩) (Nat.lt_of_lt_of_le hg2 HBR.out.size)).trans hy2
            have hz3 := (hb4.cell (p := ⟨g3, _, none⟩) (Nat.lt_of_lt_of_le hg3 HBR.out.size)).trans hy3
            have hz4 := (hb4.cell (p := ⟨ob, off + i, none⟩) hob2).trans hcw
            have HQ4 := Lib.hid (HBR.out.trans (hb4.mono HBR.out.size))
            clear hB4 hb4 cg hls hy1 hy2 hy3 hcw
            go_wp2_with fail
            go_quiet (fail)
            go_wp2_with fail
            go_roundw
            case rel => exact ⟨i + 1, by omega, by omega, by rw [HK2.out]; go_num, by go_num, below_dn HQ4.out _⟩
            case measure => simp [intOf]; omega
        · have hsz : s.size < 1 ∨ (1 ≤ s.size ∧ 2000 < s.size) := by
            have h2 : ¬ (1 ≤ s.size ∧ s.size ≤ 2000) := fun h => ho (by unfold okT; simpa using h)
            omega
          rw [if_neg ho, List.append_nil] at hsucc
          have HBR := Lib.hid hbr
          obtain ⟨k, hk⟩ : ∃ k, (kept S i).length = k := ⟨_, rfl⟩
          have HSU := Lib.hid (show (kept S (i + 1)).length = k by rw [hsucc, hk])
          rw [hk]
          clear hk hat hsk hcell ho hbr hsucc HT2 HB2 HC1 HC2 HCE2
          rcases hsz with hz | ⟨hz, hz2⟩
          all_goals
            go_wp2_with fail
            go_roundw
            case rel => exact ⟨i + 1, by omega, by omega, by rw [HSU.out], by go_num, HBR.out⟩
            case measure => simp [intOf]; omega
      · obtain rfl : i = 20 := by omega
        have hkm : (kept S 20).length = m := by rw [HBS.out, HM.out]
        rw [hkm]
        clear hkm
        have cg := get_in Ab (flat bs) cb nb wr (by rw [HNB.out]; omega) (by rw [HNB.out]; exact hc) (by rw [HNB.out]; omega) (HB2.out.below hbr)
        have hd : (flat bs).drop nb = [] := by rw [← HNB.out]; exact List.drop_length
        have eB : gB (flat bs) nb = [] := by unfold gB; rw [hd]; rfl
        have eE : gE (flat bs) nb = 3 := by unfold gE; rw [hd, HNB.out]; simp [fr_nil]
        rw [eB, eE, HNB.out] at cg
        have HBR := Lib.hid hbr
        clear hbr eB eE hd HT2 HB2 HC1 HC2 HCE2
        go_wp2_with fail
        (with_reducible refine cg.mono ?_)
        rintro e w4 ⟨A4, cap4, rfl, _, _, hb4⟩
        have haw := awake_any w4
        have HQ4 := Lib.hid (HQ2.out.trans ((HBR.out.trans (hb4.mono HBR.out.size)).mono HQ2.out.size))
        clear cg hb4
        go_wp2_with fail
        (with_reducible refine haw.mono ?_)
        rintro e w5 ⟨rfl, hb5⟩
        go_wp2
        go_ret
        exact ⟨rfl, HQ4.out.trans (hb5.mono HQ4.out.size)⟩
    · have hkm : (kept S i).length = m := by rw [kept_end S (.inr ⟨hi20, by omega⟩), HBS.out, HM.out]
      rw [hkm]
      clear hkm
      have cg := get_in Ab (flat bs) cb nb wr (by rw [HNB.out]; omega) (by rw [HNB.out]; exact hc) (by rw [HNB.out]; omega) (HB2.out.below hbr)
      have hd : (flat bs).drop nb = [] := by rw [← HNB.out]; exact List.drop_length
      have eB : gB (flat bs) nb = [] := by unfold gB; rw [hd]; rfl
      have eE : gE (flat bs) nb = 3 := by unfold gE; rw [hd, HNB.out]; simp [fr_nil]
      rw [eB, eE, HNB.out] at cg
      have HBR := Lib.hid hbr
      clear hbr eB eE hd HT2 HB2 HC1 HC2 HCE2
      go_wp2_with fail
      (with_reducible refine cg.mono ?_)
      rintro e w4 ⟨A4, cap4, rfl, _, _, hb4⟩
      have haw := awake_any w4
      have HQ4 := Lib.hid (HQ2.out.trans ((HBR.out.trans (hb4.mono HBR.out.size)).mono HQ2.out.size))
      clear cg hb4
      go_wp2_with fail
      (with_reducible refine haw.mono ?_)
      rintro e w5 ⟨rfl, hb5⟩
      go_wp2
      go_ret
      exact ⟨rfl, HQ4.out.trans (hb5.mono HQ4.out.size)⟩
set_option maxRecDepth 100000 in
theorem framemany_lifted (os : Os) (started : os.Started) (H : Type) (enc : TypeId × Value → H) :
    ReturnsInHanded {} Try.checked os 9 .any (Rows.frameManySpec.pre6 enc Try.prog Try.f9 Rows.frameManyRow.domain false) (Rows.frameManySpec.post enc Try.prog Try.f9 false true false false) := by
  refine returnsInHanded_of_change_sized (C := Try.checked) own started (by kernel_rfl) Try.func9
    (ChangeSpec.witness6 (enc := enc) (C := Try.checked) false ⟨#[], #[.slice none 0 0], []⟩ 8 (by kernel_rfl) (by kernel_rfl) (by kernel_rfl) (by kernel_rfl)) ?_
  intro W base args ds gs before hval0 hW _ hsz0 _
  have hsz : (DataW.weightsEach Try.prog (Try.f9.params.toList ++ Rows.frameManySpec.plain.varTypes Try.prog) (ds ++ gs)).all (· ≤ reachBytes) = true := hsz0
  have hval : ∀ (j : Nat) t v, Try.f9.params[j]? = some t → args[j]? = some v → Value.okWide Try.prog W .any base t v := hval0
  have hW' := hW
  obtain ⟨p, q, hA0, hV, rfl, _, _⟩ := hW
  have hA : DataW.TrodAll enc Try.prog W 0 (fun _ => true) true Try.f9.params.toList args.toList ds p := hA0
  rw [Try.params9] at hA hval hsz
  obtain ⟨v0, d0, rfl, rfl, h0⟩ := trodAll_one hA
  obtain ⟨rfl, rfl⟩ := trodVars_none hV
  simp only [List.append_nil] at hW'
  have hlt0 : ∀ x ∈ p, x.block < W.heap.size := fun x hx => hW'.lt x (by simp [hx])
  have h0k := h0
  obtain ⟨A0, L0, X0, c0, rfl, lc0, B0, hd0⟩ := open_texts Try.underlying39 Try.underlying9 (by kernel_rfl) (hval 0 39 v0 rfl rfl) h0
  have ln0 : L0.length ≤ 140737488351232 := by
    rcases hd0 with ⟨_, rfl⟩ | ⟨e, _⟩
    · simp
    · subst e
      have := sized_slice hsz (j := 0) (t := 39) (e := 9) rfl rfl Try.underlying39
      rw [show Try.prog.bytesOf 9 = 16 by kernel_rfl] at this
      simp only [strs, List.length_map, reachBytes] at this
      omega
  refine (framemany_walk A0 L0 c0 W lc0 B0 ln0).mono fun e W' ⟨he, hb⟩ => ?_
  subst he
  exact ⟨_, rfl, _, _, _, [], _, [], hW', trodAll_mk1 (shut_bool Try.underlying4 _), trodAll_mk1 (Below.trod laidOut (by kernel_rfl) (of_decide_eq_true (by kernel_rfl)) h0k hb hlt0), rfl, hb.frame _, fun h => by cases h⟩

theorem framemany_holds : Rows.FrameManySaid :=
  OpenClaim.holds_of_wide 9 Try.f9 rfl rfl rfl rfl rfl rfl rfl ⟨rfl, rfl, rfl, rfl, rfl⟩ rfl rfl rfl rfl rfl (by kernel_rfl) Try.func9 (by kernel_rfl)
    (of_decide_eq_true (by kernel_rfl)) (by unfold Func.isWrapper; first | (rw [if_pos (by decide +kernel)]; kernel_rfl) | (rw [if_neg (by decide +kernel)]; exact ⟨rfl, rfl⟩))
    (fun os started H enc _ => framemany_lifted os started H enc)
end Go.Proofs.Ytpkbjiakjofcnaa
