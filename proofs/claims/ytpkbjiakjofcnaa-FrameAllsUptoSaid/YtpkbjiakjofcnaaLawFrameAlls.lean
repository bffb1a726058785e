/- The statement FrameAlls (the second form): the frames of any bytes, broken off anywhere, and where they end, are the document's. Conditions: the arguments' bulk is at most 1048576, as the statement says. -/
import Derived.Test.YtpkbjiakjofcnaaFRefAll
import Derived.Test.YtpkbjiakjofcnaaBulk
namespace Go.Proofs.Ytpkbjiakjofcnaa
open Go.ChangeShapes Go.WideShapes Go.ChangeAt Go.RowKit

theorem row_form {w : World} {B e n : Nat} {v : Value} {xs : List Value} (h : w.ownsRow B e 1 v n xs) : ∃ A cap, v = .slice A n cap ∧ n ≤ cap ∧ (0 < n → ∃ g, A = some ⟨g, 0, none⟩ ∧ g < w.heap.size ∧ ∀ j u, xs[j]? = some u → w.cell? ⟨g, j, none⟩ = some u) := by
  have h2 := h
  rcases h.2 with ⟨rfl, hn⟩ | ⟨g, cap, cur, rfl, _, hgb, hc, _⟩
  · subst hn; exact ⟨none, 0, rfl, Nat.le_refl _, fun h => absurd h (by decide)⟩
  · refine ⟨_, cap, rfl, hc, fun _ => ⟨g, rfl, (Array.getElem?_eq_some_iff.1 hgb).1, fun j u hj => ?_⟩⟩
    have := h2.cells (g := g) rfl j u hj
    rwa [add_plain, Nat.zero_add] at this
/-- The row of frames: its form, and what lies in it. -/
theorem fs_form {n₀ m : Nat} {w : World} {v : Value} {bs : List (List UInt8)} (h : FsRow n₀ w v bs m) : ∃ A cap, v = .slice A m cap ∧ m ≤ cap ∧ ∀ i, i < m → ∃ g Ai ci, A = some ⟨g, 0, none⟩ ∧ g < w.heap.size ∧ w.cell? ⟨g, i * 3, none⟩ = some (.int .i64 (pos bs i : Int)) ∧ w.cell? ⟨g, i * 3 + 1, none⟩ = some (.slice Ai (bodyAt bs i).length ci) ∧ Bs w Ai (bodyAt bs i) := by
  obtain ⟨f, h1, h2⟩ := h
  have h3 := h1
  rcases h1.2 with ⟨rfl, hn⟩ | ⟨g, cap, cur, rfl, _, hgb, hc, _⟩
  · subst hn; exact ⟨none, 0, rfl, Nat.le_refl _, fun i h => absurd h (by omega)⟩
  · refine ⟨_, cap, rfl, hc, fun i hi => ?_⟩
    obtain ⟨Ai, ci, e, hB⟩ := bs_own (h2 i hi)
    have c0 := h3.cells (g := g) rfl (i * 3 + 0) _ (fs_at bs f hi 0 (by omega))
    have c1 := h3.cells (g := g) rfl (i * 3 + 1) _ (fs_at bs f hi 1 (by omega))
    rw [add_plain, Nat.zero_add] at c0 c1
    rw [e] at c1
    exact ⟨g, Ai, ci, rfl, (Array.getElem?_eq_some_iff.1 hgb).1, c0, c1, hB⟩
theorem range_at {f : Nat → Value} {m j : Nat} (h : j < m) : ((List.range m).map f)[j]? = some (f j) := by
  rw [List.getElem?_map, List.getElem?_range h, Option.map_some]
theorem min_any (a n m : Nat) (h : min a n = m) (ts : Array TypeId) (t : TypeId) (u : World) : (Builtin.min_ ts t #[.int .i64 (a : Int), .int .i64 (n : Int)]).run Try.prog u = .ok (.int .i64 (m : Int)) u := by
  rw [run_min_int2]
  have e : (if (n : Int) < (a : Int) then (n : Int) else (a : Int)) = (m : Int) := by
    split <;> omega
  rw [e]

set_option maxRecDepth 100000 in
set_option maxHeartbeats 4000000 in
theorem framealls_walk (A : Option Addr) (L : List UInt8) (ca : Nat) (v : Int) (w : World) (hlc : L.length ≤ ca) (hcm : ca ≤ 1048576) (hB : Bs w A L) (hcap : A = none → ca = 0) (hv0 : -9223372036854775808 ≤ v) (hv1 : v ≤ 9223372036854775807) :
    Calls Try.prog 5 #[.slice A L.length ca, .int .i64 v] w fun e w' => e = .returned (.bool true) ∧ Below w.heap.size w w' := by
  obtain ⟨bs, R, hF⟩ := frs_of L
  have hmany := pos_many hF.ok bs.length (Nat.le_refl _)
  have hle := hF.le bs.length
  have c1 := refall_any A L R bs ca w hF (by omega) hlc hB
  obtain ⟨p, hp, cP⟩ := place_nat v 20 hv0 hv1 (by omega) (by omega)
  simp only [Int.cast_ofNat_Int] at cP
  obtain ⟨n, hn⟩ : ∃ n, L.length = n := ⟨_, rfl⟩
  obtain ⟨m, hm⟩ : ∃ m, bs.length = m := ⟨_, rfl⟩
  have HN := Lib.hid hn
  have HM := Lib.hid hm
  have HF := Lib.hid hF
  have HB := Lib.hid hB
  have HCAP := Lib.hid hcap
  have hwh : ((pos bs m : Int) == (n : Int)) = wholeB L bs := by
    unfold wholeB
    rw [hm, hn, Bool.eq_iff_iff, beq_iff_eq, decide_eq_true_iff]; omega
  rw [hn] at hlc c1 hle ⊢
  rw [hm] at hmany hle
  have hmn : m ≤ 1048576 := by omega
  clear hn hm hF hB hcap
  go_enter Try.func5, Try.ntmps5
  go_wp2_with fail
  (with_reducible refine c1.mono ?_)
  rintro e w1 ⟨v1, rfl, hfs, hb1⟩
  rw [HM.out] at hfs ⊢
  obtain ⟨Af, cf, rfl, hcf, hcells⟩ := fs_form hfs
  have HCF := Lib.hid hcells
  have HB1 := Lib.hid hb1
  have c2 := bytes_any A L ca w1 (by rw [HN.out]; omega) (HB.out.below hb1) HCAP.out
  rw [HN.out] at c2
  clear c1 hfs hb1 hcells
  go_wp2_with fail
  (with_reducible refine c2.mono ?_)
  rintro e w2 ⟨A2, cap2, rfl, hB2, _, hown2, hb2⟩
  have c3 := ends_any A2 L R bs cap2 w2 HF.out (by rw [HN.out]; omega) (own_cap hown2) hB2
  have HB2 := Lib.hid (HB1.out.trans (hb2.mono HB1.out.size))
  rw [HN.out, HM.out] at c3
  rw [HN.out]
  clear c2 hB2 hown2
  go_wp2_with fail
  (with_reducible refine c3.mono ?_)
  rintro e w3 ⟨rfl, hb3⟩
  have HB3 := Lib.hid (HB2.out.trans (hb3.mono HB2.out.size))
  have HQ3 := Lib.hid (hb2.trans (hb3.mono hb2.size))
  generalize wholeB L bs = dB at *
  obtain ⟨q, hq⟩ : ∃ q, pos bs m = q := ⟨_, rfl⟩
  rw [hq] at hle hwh ⊢
  clear c3 hb2 hb3 hq HB2 HB1
  go_wp2_with fail
  go_loopw [9] (fun r wr => (r = .int .i64 0 ∨ r = .int .i64 1 ∨ r = .int .i64 2) ∧ Below w3.heap.size w3 wr) (fun r _ => 2 - (intOf r).toNat)
  case atStart => exact ⟨.inl rfl, Below.refl _ _⟩
  case round =>
    obtain ⟨hr, hbr⟩ := hrel
    have cPr := cP wr
    rcases hr with rfl | rfl | rfl
    · obtain ⟨kk, hkk⟩ : ∃ kk, kk = p + 1 := ⟨_, rfl⟩
      have hk1 : 1 ≤ kk := by omega
      have hk2 : kk ≤ 1048577 := by omega
      have hcoe : (1 : Int) + (p : Int) = (kk : Int) := by omega
      have HKK := Lib.hid hkk
      have cb1 := bytes_any A L ca wr (by rw [HN.out]; omega) ((HB.out.below HB3.out).below hbr) HCAP.out
      rw [HN.out] at cb1
      have HBR := Lib.hid hbr
      clear hbr hkk
      go_wp2_with fail
      (with_reducible refine cPr.mono ?_)
      rintro e w' ⟨rfl, rfl⟩
      clear cPr cP
      go_wp2_with fail
      (with_reducible refine cb1.mono ?_)
      rintro e w4 ⟨A4, cap4, rfl, hB4, hn4, _, hb4⟩
      have ca1 := all_any A4 L R bs cap4 kk w4 HF.out (by rw [HN.out]; omega) (by rw [HM.out]; omega) hk1 hB4 hn4
      obtain ⟨mm, hmm⟩ : ∃ mm, min kk m = mm := ⟨_, rfl⟩
      have hmin := min_any kk m mm hmm
      rw [HN.out, HM.out, hmm] at ca1
      rw [HN.out]
      have HB4 := Lib.hid (HBR.out.trans (hb4.mono HBR.out.size))
      have hmm2 : mm ≤ m := by omega
      clear cb1 hB4 hn4 hb4 HBR hmm
      go_wp2_with fail
      try rw [hcoe]
      (with_reducible refine ca1.mono ?_)
      rintro e w5 ⟨va, vl, rfl, ho1, ho2, hb5⟩
      obtain ⟨Aa, c1, rfl, hc1, hcl1⟩ := row_form ho1
      obtain ⟨Al, c2, rfl, hc2, hcl2⟩ := row_form ho2
      have HB5 := Lib.hid (HB4.out.trans (hb5.mono HB4.out.size))
      have HC1 := Lib.hid hcl1
      have HC2 := Lib.hid hcl2
      clear ca1 ho1 ho2 hb5 hcl1 hcl2 HB4
      go_wp2_with fail
      go_loopw [13] (fun i wq => ∃ j : Nat, j ≤ mm ∧ i = .int .i64 j ∧ Below w5.heap.size w5 wq) (fun i _ => mm - (intOf i).toNat)
      case atStart => exact ⟨0, Nat.zero_le _, rfl, Below.refl _ _⟩
      case round =>
        obtain ⟨j, hj, rfl, hbq⟩ := hrel
        by_cases hlt : j < mm
        · obtain ⟨g, Ai, ci, rfl, hg, e0, e1, hBi⟩ := HCF.out j (by omega)
          obtain ⟨g1, rfl, hg1, hl1⟩ := HC1.out (by omega)
          obtain ⟨g2, rfl, hg2, hl2⟩ := HC2.out (by omega)
          have hx1 := (hbq.cell (p := ⟨g1, j, none⟩) hg1).trans (hl1 j _ (range_at hlt))
          have hx2 := (hbq.cell (p := ⟨g2, j, none⟩) hg2).trans (hl2 j _ (range_at hlt))
          have hq1 := (HQ3.out.trans (HB5.out.mono HQ3.out.size)).trans (hbq.mono (HQ3.out.trans (HB5.out.mono HQ3.out.size)).size)
          have hx3 := (hq1.cell (p := ⟨g, j * 3, none⟩) hg).trans e0
          have hx4 := (hq1.cell (p := ⟨g, j * 3 + 1, none⟩) hg).trans e1
          have hB7 := hBi.below hq1
          have k1 := fun t => run_str_of (P := Try.prog) (w := wr.drewN t) 22 9 5 ci Try.underlying22 Try.underlying5 Try.underlying9 hB7
          unfold textV at hx2
          unfold placeV at hx1
          have hjm : j < m := by omega
          have HBQ := Lib.hid hbq
          clear hl1 hl2 hq1 e0 e1 hBi hB7 hbq HC1 HC2 HCF hmin
          generalize (⟨(bodyAt bs j).toArray⟩ : ByteArray) = txt at *
          generalize (bodyAt bs j).length = nb at *
          generalize pos bs j = qj at *
          go_wp2_with fail
          go_quiet (fail)
          go_wp2_with fail
          go_roundw
          case rel => exact ⟨j + 1, hlt, by go_num, below_dn HBQ.out _⟩
          case measure => simp [intOf]; omega
        · obtain rfl : j = mm := by omega
          have HBQ := Lib.hid (HB5.out.trans (hbq.mono HB5.out.size))
          clear hbq HC1 HC2 HCF hmin
          go_wp2_with fail
          go_roundw
          case rel => exact ⟨.inr (.inl rfl), HBQ.out⟩
          case measure => simp [intOf]
    · obtain ⟨kk, hkk⟩ : ∃ kk, kk = n + 1 := ⟨_, rfl⟩
      have hk1 : 1 ≤ kk := by omega
      have hk2 : kk ≤ 1048577 := by omega
      have hcoe : (n : Int) + 1 = (kk : Int) := by omega
      have HKK := Lib.hid hkk
      have cb1 := bytes_any A L ca wr (by rw [HN.out]; omega) ((HB.out.below HB3.out).below hbr) HCAP.out
      rw [HN.out] at cb1
      have HBR := Lib.hid hbr
      clear hbr hkk
      go_wp2_with fail
      (with_reducible refine cPr.mono ?_)
      rintro e w' ⟨rfl, rfl⟩
      clear cPr cP
      go_wp2_with fail
      (with_reducible refine cb1.mono ?_)
      rintro e w4 ⟨A4, cap4, rfl, hB4, hn4, _, hb4⟩
      have ca1 := all_any A4 L R bs cap4 kk w4 HF.out (by rw [HN.out]; omega) (by rw [HM.out]; omega) hk1 hB4 hn4
      obtain ⟨mm, hmm⟩ : ∃ mm, min kk m = mm := ⟨_, rfl⟩
      have hmin := min_any kk m mm hmm
      rw [HN.out, HM.out, hmm] at ca1
      rw [HN.out]
      have HB4 := Lib.hid (HBR.out.trans (hb4.mono HBR.out.size))
      have hmm2 : mm ≤ m := by omega
      clear cb1 hB4 hn4 hb4 HBR hmm
      go_wp2_with fail
      try rw [hcoe]
      (with_reducible refine ca1.mono ?_)
      rintro e w5 ⟨va, vl, rfl, ho1, ho2, hb5⟩
      obtain ⟨Aa, c1, rfl, hc1, hcl1⟩ := row_form ho1
      obtain ⟨Al, c2, rfl, hc2, hcl2⟩ := row_form ho2
      have HB5 := Lib.hid (HB4.out.trans (hb5.mono HB4.out.size))
      have HC1 := Lib.hid hcl1
      have HC2 := Lib.hid hcl2
      clear ca1 ho1 ho2 hb5 hcl1 hcl2 HB4
      go_wp2_with fail
      go_loopw [13] (fun i wq => ∃ j : Nat, j ≤ mm ∧ i = .int .i64 j ∧ Below w5.heap.size w5 wq) (fun i _ => mm - (intOf i).toNat)
      case atStart => exact ⟨0, Nat.zero_le _, rfl, Below.refl _ _⟩
      case round =>
        obtain ⟨j, hj, rfl, hbq⟩ := hrel
        by_cases hlt : j < mm
        · obtain ⟨g, Ai, ci, rfl, hg, e0, e1, hBi⟩ := HCF.out j (by omega)
          obtain ⟨g1, rfl, hg1, hl1⟩ := HC1.out (by omega)
          obtain ⟨g2, rfl, hg2, hl2⟩ := HC2.out (by omega)
          have hx1 := (hbq.cell (p := ⟨g1, j, none⟩) hg1).trans (hl1 j _ (range_at hlt))
          have hx2 := (hbq.cell (p := ⟨g2, j, none⟩) hg2).trans (hl2 j _ (range_at hlt))
          have hq1 := (HQ3.out.trans (HB5.out.mono HQ3.out.size)).trans (hbq.mono (HQ3.out.trans (HB5.out.mono HQ3.out.size)).size)
          have hx3 := (hq1.cell (p := ⟨g, j * 3, none⟩) hg).trans e0
          have hx4 := (hq1.cell (p := ⟨g, j * 3 + 1, none⟩) hg).trans e1
          have hB7 := hBi.below hq1
          have k1 := fun t => run_str_of (P := Try.prog) (w := wr.drewN t) 22 9 5 ci Try.underlying22 Try.underlying5 Try.underlying9 hB7
          unfold textV at hx2
          unfold placeV at hx1
          have hjm : j < m := by omega
          have HBQ := Lib.hid hbq
          clear hl1 hl2 hq1 e0 e1 hBi hB7 hbq HC1 HC2 HCF hmin
          generalize (⟨(bodyAt bs j).toArray⟩ : ByteArray) = txt at *
          generalize (bodyAt bs j).length = nb at *
          generalize pos bs j = qj at *
          go_wp2_with fail
          go_quiet (fail)
          go_wp2_with fail
          go_roundw
          case rel => exact ⟨j + 1, hlt, by go_num, below_dn HBQ.out _⟩
          case measure => simp [intOf]; omega
        · obtain rfl : j = mm := by omega
          have HBQ := Lib.hid (HB5.out.trans (hbq.mono HB5.out.size))
          clear hbq HC1 HC2 HCF hmin
          go_wp2_with fail
          go_roundw
          case rel => exact ⟨.inr (.inr rfl), HBQ.out⟩
          case measure => simp [intOf]
    · have haw := awake_any wr
      have HBR := Lib.hid (HB3.out.trans (hbr.mono HB3.out.size))
      clear hbr cP cPr
      go_wp2_with fail
      (with_reducible refine haw.mono ?_)
      rintro e w5 ⟨rfl, hb5⟩
      go_wp2
      go_ret
      exact ⟨rfl, HBR.out.trans (hb5.mono HBR.out.size)⟩
set_option maxRecDepth 100000 in
theorem framealls_lifted (os : Os) (started : os.Started) (H : Type) (enc : TypeId × Value → H) (F : Stop.Interp) :
    ReturnsInHanded {} Try.checked os 5 .any ((Rows.OpenSpec.upto Rows.frameAllsSpec).pre6 enc Try.prog Try.f5 Rows.frameAllsUptoRow.domain false) (((Rows.OpenSpec.upto Rows.frameAllsSpec).at F).post enc Try.prog Try.f5 false true false false) := by
  refine returnsInHanded_of_cond_sized (C := Try.checked) (s := Rows.OpenSpec.upto Rows.frameAllsSpec) (k := Rows.uptoSmall) rfl own started (by kernel_rfl) Try.func5
    (OpenSpec.witness (enc := enc) (C := Try.checked) (s := Rows.OpenSpec.upto Rows.frameAllsSpec) (k := Rows.uptoSmall) rfl false ⟨#[], #[.slice none 0 0, .int .i64 0], []⟩ 8 (by kernel_rfl) (by kernel_rfl) (by kernel_rfl) (x := ([.nil, .lit (.int .i64 0)], [], [])) (by kernel_rfl) rfl (by kernel_rfl)) ?_
  intro W base args ds gs before hval0 hW _ hk0 hsz0 _
  have hbk : Rows.uptoBulkAll (ds ++ gs) ≤ 1048576 := of_decide_eq_true hk0
  have hsz : (DataW.weightsEach Try.prog (Try.f5.params.toList ++ Rows.frameAllsSpec.plain.varTypes Try.prog) (ds ++ gs)).all (· ≤ reachBytes) = true := hsz0
  have hval : ∀ (j : Nat) t v, Try.f5.params[j]? = some t → args[j]? = some v → Value.okWide Try.prog W .any base t v := hval0
  have hW' := hW
  obtain ⟨p, q, hA0, hV, rfl, _, _⟩ := hW
  have hA : DataW.TrodAll enc Try.prog W 0 (fun _ => true) true Try.f5.params.toList args.toList ds p := hA0
  rw [Try.params5] at hA hval hsz
  obtain ⟨v0, v1, d0, d1, p0, p1, rfl, rfl, rfl, h0, h1⟩ := trodAll_two hA
  obtain ⟨rfl, rfl⟩ := trodVars_none hV
  simp only [List.append_nil] at hW'
  obtain ⟨x1, rfl, rfl, rfl, wx1⟩ := open_int Try.underlying3 (hval 1 3 v1 rfl rfl) h1
  simp only [List.append_nil, Rows.uptoBulkAll, Rows.uptoBulk] at hbk
  have hlt0 : ∀ x ∈ p0, x.block < W.heap.size := fun x hx => hW'.lt x (by simp [hx])
  have h0k := h0
  obtain ⟨A0, L0, c0, rfl, lc0, cm0, B0, N0⟩ := open_bytes_le (1048576) Try.underlying22 Try.underlying5 (by kernel_rfl) (hval 0 22 v0 rfl rfl) h0 (fun elems spare e => by
    subst e
    have := bulk_slice elems spare
    omega)
  refine (framealls_walk A0 L0 c0 x1 W lc0 cm0 B0 N0 (bounds_i64 wx1).1 (bounds_i64 wx1).2).mono fun e W' ⟨he, hb⟩ => ?_
  subst he
  exact ⟨_, rfl, _, _, _, [], _, [], hW', trodAll_mk1 (shut_bool Try.underlying4 _), trodAll_mk2 (Below.trod laidOut (by kernel_rfl) (of_decide_eq_true (by kernel_rfl)) h0k hb hlt0) (shut_int Try.underlying3 wx1), rfl, hb.frame _, fun h => by cases h⟩

theorem framealls_holds : Rows.FrameAllsUptoSaid :=
  OpenClaim.holds_of_cond 5 Try.f5 rfl rfl rfl rfl rfl rfl rfl ⟨rfl, rfl, rfl, rfl, rfl⟩ rfl rfl rfl rfl rfl (by kernel_rfl) Try.func5 (by kernel_rfl)
    (of_decide_eq_true (by kernel_rfl)) (by unfold Func.isWrapper; first | (rw [if_pos (by decide +kernel)]; kernel_rfl) | (rw [if_neg (by decide +kernel)]; exact ⟨rfl, rfl⟩))
    (fun os started H enc _ F => framealls_lifted os started H enc F)
end Go.Proofs.Ytpkbjiakjofcnaa
