/- palaverref08.typ, Of. -/
import Derived.Test.YtjmfpgalepahoaaGreatDoorMTyOf
import Derived.Test.YtjmfpgalepahoaaGreatDoorMTyRF
import Derived.Test.YtjmfpgalepahoaaGreatDoorHF
namespace Go.Proofs.YtjmfpgalepahoaaGreatDoor
open Go.RowKit

/-- An operation of such kids, by the document. -/
theorem typE_1 {N : List ByteArray} {Z : List Int} {n : Int} {s : List UInt8} {ks : List Ex} (h : ks.length = 0) : typE N Z (.mk 1 n s ks) = .ok 1 := by
  rw [List.length_eq_zero_iff.1 h, typE, if_neg (by decide), typL]; rfl
theorem typE_2 {N : List ByteArray} {Z : List Int} {n : Int} {s : List UInt8} {ks : List Ex} (h : ks.length = 0) : typE N Z (.mk 2 n s ks) = .ok 3 := by
  rw [List.length_eq_zero_iff.1 h, typE, if_neg (by decide), typL]; rfl
theorem typE_3 {N : List ByteArray} {Z : List Int} {n : Int} {s : List UInt8} {ks : List Ex} (h : ks.length = 0) : typE N Z (.mk 3 n s ks) = .ok 2 := by
  rw [List.length_eq_zero_iff.1 h, typE, if_neg (by decide), typL]; rfl
set_option maxHeartbeats 4000000 in
set_option maxRecDepth 100000 in
theorem rtyp_all (N : List ByteArray) (Z : List Int) (A B : Option Addr) (cA cB : Nat) (lS : N.length ≤ 4611686018427387904) (lZ : Z.length ≤ 4611686018427387904) : ∀ (F : Nat) (e : Ex), nodes e ≤ F → nodes e ≤ 100000 → ∀ (v : Value) (S : Nat → Prop) (w : World), ExIn w S e v → Ts w A N → Is w B Z → allB e = true →
    Calls Tryz.prog 50 #[v, .slice A N.length cA, .slice B Z.length cB] w fun en w' => en = .returned (tyV (typE N Z e)) ∧ Below w.heap.size w w'
  | 0, e, hF, _, _, _, _, _, _, _, _ => absurd hF (by have := nodes_pos e; omega)
  | F + 1, .mk op n s ks, hF, hN, v, S, w, hv, hS, hZ, ha => by
    have IH := rtyp_all N Z A B cA cB lS lZ F
    obtain ⟨har, hp, hh⟩ := part_arity (all_part ha)
    have hkl : allBL ks = true := by rw [allB] at ha; simp only [Bool.and_eq_true] at ha; exact ha.2
    have hnl : nodesL ks + 1 ≤ 100000 := by rw [nodes] at hN; omega
    have hnF : nodesL ks ≤ F := by rw [nodes] at hF; omega
    have hkn := nodesL_len ks
    obtain ⟨ao, cap, rfl, h2, h3, hr, hk⟩ := hv.get
    unfold Ex.op Ex.num Ex.str Ex.kids at *
    dsimp only at *
    obtain ⟨i0, hi, hz0, hz1, hz2⟩ := info_parts (show (Tryz.prog.info? 3).map (fun i => (i.zero, i.size, i.bytes)) = some (some (.int .i64 0), 1, 8) by kernel_rfl)
    have hX := four_new w (.int .i64 op) (.int .i64 n) (.string ⟨s.toArray⟩) (.slice ao ks.length cap) 25
    have hbX := below_alloc w (.cells #[.int .i64 op, .int .i64 n, .string ⟨s.toArray⟩, .slice ao ks.length cap] 25)
    obtain ⟨wX, hwX⟩ : ∃ wX, w.alloc (.cells #[.int .i64 op, .int .i64 n, .string ⟨s.toArray⟩, .slice ao ks.length cap] 25) = wX := ⟨_, rfl⟩
    rw [hwX] at hX hbX
    have hS := hS.below hbX
    have hZ := hZ.below hbX
    have hk : 0 < ks.length → ∃ g o, ao = some ⟨g, o, none⟩ ∧ S g ∧ g < wX.heap.size ∧ RowIn wX S g o ks := fun h => by
      obtain ⟨g, o, a, b, c, d⟩ := hk h
      exact ⟨g, o, a, b, Nat.lt_of_lt_of_le c hbX.size, RowIn.stays (.of hbX) ks g o b c d⟩
    have hX' := hX
    obtain ⟨-, x0, x1, x2, x3, -⟩ := hX'
    have HBX := Lib.hid hbX
    by_cases o1 : op = 1
    · subst o1
      have HT := Lib.hid (typE_1 (N := N) (Z := Z) (n := n) (s := s) (ks := ks) (by simpa [arity, eq_comm] using har))
      clear IH hX hv hbX hk har hp hh hkl hi hz0 hz1 hz2 hS hZ
      go_enter Tryz.func50, Tryz.ntmps50
      go_wp2_with fail
      exact bodyPost_ret (v := .tuple #[.int .i64 1, .int .i64 0]) (by simp [results, Tryz.results50, go_sem]) rfl ⟨by rw [HT.out]; rfl, HBX.out⟩
    by_cases o2 : op = 2
    · subst o2
      have HT := Lib.hid (typE_2 (N := N) (Z := Z) (n := n) (s := s) (ks := ks) (by simpa [arity, eq_comm] using har))
      clear IH hX hv hbX hk har hp hh hkl hi hz0 hz1 hz2 hS hZ
      go_enter Tryz.func50, Tryz.ntmps50
      go_wp2_with fail
      exact bodyPost_ret (v := .tuple #[.int .i64 3, .int .i64 0]) (by simp [results, Tryz.results50, go_sem]) rfl ⟨by rw [HT.out]; rfl, HBX.out⟩
    by_cases o3 : op = 3
    · subst o3
      have HT := Lib.hid (typE_3 (N := N) (Z := Z) (n := n) (s := s) (ks := ks) (by simpa [arity, eq_comm] using har))
      clear IH hX hv hbX hk har hp hh hkl hi hz0 hz1 hz2 hS hZ
      go_enter Tryz.func50, Tryz.ntmps50
      go_wp2_with fail
      exact bodyPost_ret (v := .tuple #[.int .i64 2, .int .i64 0]) (by simp [results, Tryz.results50, go_sem]) rfl ⟨by rw [HT.out]; rfl, HBX.out⟩
    by_cases hop : op = 4
    · subst hop
      have cN := rfind_any N Z A B cA cB ⟨s.toArray⟩ wX hS hZ lS lZ
      have HTE := Lib.hid (typE_name (N := N) (Z := Z) (n := n) (s := s) (ks := ks))
      generalize findT N Z ⟨s.toArray⟩ = t at *
      clear IH hX hv hbX hk har hp hh hkl hi hz0 hz1 hz2 hS hZ
      by_cases ht : t = 0
      · subst ht
        go_enter Tryz.func50, Tryz.ntmps50
        go_wp2_with fail
        refine cN.mono ?_
        rintro en w1 ⟨rfl, rfl⟩
        go_wp2_with fail
        exact bodyPost_ret (v := .tuple #[.int .i64 0, .int .i64 9]) (by simp [results, Tryz.results50, go_sem]) rfl ⟨by rw [HTE.out]; rfl, HBX.out⟩
      · have htz : (t == 0) = false := beq_eq_false_iff_ne.2 ht
        go_enter Tryz.func50, Tryz.ntmps50
        go_wp2_with fail
        refine cN.mono ?_
        rintro en w1 ⟨rfl, rfl⟩
        go_wp2_with fail
        exact bodyPost_ret (v := .tuple #[.int .i64 t, .int .i64 0]) (by simp [results, Tryz.results50, go_sem]) rfl ⟨by rw [HTE.out, if_neg ht]; rfl, HBX.out⟩
    have q1 : (op == 1) = false := beq_eq_false_iff_ne.2 o1
    have q2 : (op == 2) = false := beq_eq_false_iff_ne.2 o2
    have q3 : (op == 3) = false := beq_eq_false_iff_ne.2 o3
    have q4 : (op == 4) = false := beq_eq_false_iff_ne.2 hop
    have hop5 : 5 ≤ op := by
      unfold arity at har
      repeat' split at har
      all_goals first | omega | cases har
    obtain ⟨R, hRR⟩ : ∃ R, typE N Z (.mk op n s ks) = R := ⟨_, rfl⟩
    rw [hRR]
    have HR : Hid (KTy wX wX (.slice none 0 0) N Z 0 ks) := Lib.hid ⟨[], by rw [List.take_zero, typL], World.ownsRow_nil _ _ _ _, Below.refl _ _⟩
    have HRR := Lib.hid hRR
    have HX := Lib.hid hX
    have HS := Lib.hid hS
    have HZ := Lib.hid hZ
    have HK := Lib.hid hk
    have HA := Lib.hid hkl
    have HAR := Lib.hid har
    clear hv hX hbX hk hkl hp hh har hS hZ hRR
    go_enter Tryz.func50, Tryz.ntmps50
    go_wp2_with fail
    go_loopg [9, 10] (ks.length) (fun a sT sI wr => ∃ (j : Nat), j + a = ks.length ∧ sI = .int .i64 (j : Int) ∧ Hid (KTy wX wr sT N Z j ks))
    case atStart => exact ⟨0, by omega, rfl, HR⟩
    case round =>
      obtain ⟨j, hja, rfl, HW⟩ := hrel
      clear HR x0 x1 x2 x3 hwX
      have HJ := Lib.hid hja
      obtain ⟨ts, hts, hown, hB⟩ := HW.out
      obtain ⟨-, x0, x1, x2, x3, -⟩ := HX.out.later hB
      by_cases hjk : j < ks.length
      · have hjz : (j : Int) < (ks.length : Int) := by omega
        obtain ⟨g, o, rfl, hSg, hg, hrow⟩ := HK.out (by omega)
        have hx : ks[j]? = some ks[j] := List.getElem?_eq_getElem hjk
        have hrow2 := RowIn.stays (.of hB) ks g o hSg hg hrow
        obtain ⟨v0, v1, v2, v3, c0, c1, c2, c3, he⟩ := hrow2.at hx
        obtain ⟨ao2, cap2, hev, -⟩ := he.get
        obtain ⟨rfl, rfl, rfl, rfl⟩ := agg4 hev
        clear hev
        have hgr : g < wr.heap.size := Nat.lt_of_lt_of_le hg hB.size
        have hkn : nodes ks[j] ≤ nodesL ks := nodes_kid (List.getElem_mem hjk)
        have hka : allB ks[j] = true := all_kid HA.out (List.getElem_mem hjk)
        have cI := IH ks[j] (by omega) (by omega) _ S _ he (HS.out.below hB) (HZ.out.below hB) hka
        have HBT := Lib.hid hB
        have HOA := Lib.hid hown
        have htj : ks.take (j + 1) = ks.take j ++ [ks[j]] := by rw [List.take_add_one, hx]; rfl
        have hdj : ks = ks.take j ++ ks[j] :: ks.drop (j + 1) := by
          conv => lhs; rw [← List.take_append_drop j ks, List.drop_eq_getElem_cons hjk]
        have HTJ := Lib.hid htj
        have HDJ := Lib.hid hdj
        have HTS := Lib.hid hts
        cases hte : typE N Z ks[j] with
        | error x =>
          have hxb := typE_bad N Z _ _ hte
          have hxz : (x == 0) = false := beq_eq_false_iff_ne.2 (by omega)
          have HR2 : Hid (R = .error x) := Lib.hid (by
            rw [← HRR.out]
            refine typE_err hop ?_
            rw [HDJ.out]
            exact typL_stop HTS.out hte)
          rw [hte] at cI
          simp only [tyV, tyN, tyF] at cI
          clear HW hrow hrow2 he hB HK hja hx IH hown hka hkn htj hdj hts hte hxb
          go_wp2_with fail
          refine cI.mono ?_
          rintro en w2 ⟨rfl, b2⟩
          clear cI
          go_wp2_with fail
          exact bodyPost_ret (v := .tuple #[.int .i64 0, .int .i64 x]) (by simp [results, Tryz.results50, go_sem]) rfl ⟨by rw [HR2.out]; rfl, below_to HBX.out (below_to HBT.out b2)⟩
        | ok t =>
          have HTE := Lib.hid hte
          rw [hte] at cI
          simp only [tyV, tyN, tyF] at cI
          clear HW hrow hrow2 he hB HK hja hx IH hown hka hkn htj hdj hts hte
          go_wp2_with fail
          refine cI.mono ?_
          rintro en w2 ⟨rfl, b2⟩
          have hown2 := own_later HOA.out b2
          have hb2 := below_to HBT.out b2
          have hb3 := hb2.alloc hb2.size (.cells #[.int .i64 t] 3)
          have hown3 := own_later hown2 (below_alloc w2 (.cells #[.int .i64 t] 3))
          have hlw := hb2.size
          have HB3 := Lib.hid hb3
          have HO3 := Lib.hid hown3
          clear cI b2 hown2 hb2 hb3 hown3 HBT HOA c0 c1 c2 c3
          go_wp2_with (at_builtin; refine wpList_append_own _ rfl _ _ 37 rfl wX.heap.size 3 i0 _ 1 8 Tryz.underlying37 hi hz0 hz1 hz2 rfl (by decide) _ _ _ rfl HO3.out ⟨w2.heap.size, 0, none⟩ 1 1 [.int .i64 t] rfl rfl (one_news _ _ _) (int_cell _) ?c3 ?c4 ?c5 ?_)
          case c3 => unfold maxLen; omega
          case c4 => omega
          case c5 => rw [alloc_size]; omega
          intro v' w4 hown' hgrow hnil
          have hW4 : KTy wX w4 v' N Z (j + 1) ks := by
            refine ⟨ts ++ [t], ?_, by rw [List.map_append]; exact hown', below_grown HB3.out (Nat.le_refl _) hgrow (fun b hb => (own_blk HO3.out b hb).1)⟩
            rw [HTJ.out]
            exact typL_snoc HTS.out HTE.out
          have HW4 := Lib.hid hW4
          clear hown' hgrow hnil hW4 HB3 HO3
          go_wp2_with fail
          go_roundg (ks.length - (j + 1))
          case measure => have := HJ.out; omega
          case rel => exact ⟨j + 1, by have := HJ.out; omega, by go_num, HW4⟩
      · have hjz : ¬ (j : Int) < (ks.length : Int) := by omega
        have hj : j = ks.length := by have := HJ.out; omega
        subst hj
        rw [List.take_length] at hts
        have HTS0 := Lib.hid hts
        have hlen := typL_len hts
        have har := HAR.out
        rw [← hlen] at har
        have HB := Lib.hid (below_to HBX.out hB)
        rw [← hlen] at hown
        have cP := rof_any op ts _ wr _ hown har hop5 (typL_in N Z ks ts HTS0.out)
        have hR := HRR.out
        rw [typE_kids hop hts] at hR
        generalize partT op ts = t at *
        have HR2 := Lib.hid hR
        obtain ⟨ao3, cap3, rfl, -⟩ := own_slice hown
        clear HW HJ hja IH HK hown hi hz0 hz1 hz2 HX hts har hR HRR hlen
        by_cases ht : t = 0
        · subst ht
          go_wp2_with fail
          refine cP.mono ?_
          rintro en w2 ⟨rfl, b2⟩
          go_wp2_with fail
          exact bodyPost_ret (v := .tuple #[.int .i64 0, .int .i64 8]) (by simp [results, Tryz.results50, go_sem]) rfl ⟨by rw [← HR2.out]; rfl, below_to HB.out b2⟩
        · have htz : (t == 0) = false := beq_eq_false_iff_ne.2 ht
          go_wp2_with fail
          refine cP.mono ?_
          rintro en w2 ⟨rfl, b2⟩
          go_wp2_with fail
          exact bodyPost_ret (v := .tuple #[.int .i64 t, .int .i64 0]) (by simp [results, Tryz.results50, go_sem]) rfl ⟨by rw [← HR2.out, if_neg ht]; rfl, below_to HB.out b2⟩
set_option maxHeartbeats 2000000 in
set_option maxRecDepth 100000 in
/-- palaverref08.Of. -/
theorem rtypes_any (N : List ByteArray) (Z : List Int) (A B : Option Addr) (cA cB : Nat) (lS : N.length ≤ 4611686018427387904) (lZ : Z.length ≤ 4611686018427387904) (e : Ex) (v : Value) (S : Nat → Prop) (w : World) (hE : EnvP w) (hv : ExIn w S e v) (hS : Ts w A N) (hZ : Is w B Z) :
    Calls Tryz.prog 26 #[v, .slice A N.length cA, .slice B Z.length cB] w fun en w' => en = .returned (tyV (ofE N Z e)) ∧ Below w.heap.size w w' := by
  obtain ⟨ao, cap, rfl, h2, h3, hr, hk⟩ := hv.get
  have hX := four_new w (.int .i64 e.op) (.int .i64 e.num) (.string ⟨e.str.toArray⟩) (.slice ao e.kids.length cap) 25
  have hbX := below_alloc w (.cells #[.int .i64 e.op, .int .i64 e.num, .string ⟨e.str.toArray⟩, .slice ao e.kids.length cap] 25)
  have hEX := hE.later hbX
  have hvX := hv.later hbX
  have hSX := hS.below hbX
  have hZX := hZ.below hbX
  have c := rcheck_any e _ S _ hEX hvX
  obtain ⟨wX, hwX⟩ : ∃ wX, w.alloc (.cells #[.int .i64 e.op, .int .i64 e.num, .string ⟨e.str.toArray⟩, .slice ao e.kids.length cap] 25) = wX := ⟨_, rfl⟩
  rw [hwX] at hX hbX c hEX hvX hSX hZX
  have hX' := hX
  obtain ⟨-, x0, x1, x2, x3, -⟩ := hX
  unfold ofE
  cases hc : chkB e with
  | false =>
    rw [hc] at c
    clear hk hv hX' hEX hvX
    go_enter Tryz.func26, Tryz.ntmps26
    go_wp2_with fail
    refine c.mono ?_
    rintro en w1 ⟨rfl, b1⟩
    go_wp2_with fail
    exact bodyPost_ret (v := .tuple #[.int .i64 0, .int .i64 6]) (by simp [results, Tryz.results26, go_sem]) rfl ⟨rfl, below_to hbX b1⟩
  | true =>
    rw [hc] at c
    unfold chkB at hc
    simp only [Bool.and_eq_true, decide_eq_true_eq] at hc
    have cT := fun w1 (b : Below wX.heap.size wX w1) => rtyp_all N Z A B cA cB lS lZ (nodes e) e (Nat.le_refl _) (by omega) _ S w1 (hvX.later b) (hSX.below b) (hZX.below b) hc.2
    obtain ⟨t, ht⟩ : ∃ t, tyN (typE N Z e) = t := ⟨_, rfl⟩
    obtain ⟨f, hf⟩ : ∃ f, tyF (typE N Z e) = f := ⟨_, rfl⟩
    have HT := Lib.hid ht
    have HF := Lib.hid hf
    simp only [tyV, ht, hf] at cT
    clear hk hv hEX hvX ht hf
    go_enter Tryz.func26, Tryz.ntmps26
    go_wp2_with fail
    refine c.mono ?_
    rintro en w1 ⟨rfl, b1⟩
    have c2 := cT w1 b1
    obtain ⟨-, y0, y1, y2, y3, -⟩ := hX'.later b1
    clear c cT x0 x1 x2 x3 hwX
    go_wp2_with fail
    refine c2.mono ?_
    rintro en w2 ⟨rfl, b2⟩
    go_wp2_with fail
    exact bodyPost_ret (v := .tuple #[.int .i64 t, .int .i64 f]) (by simp [results, Tryz.results26, go_sem]) rfl ⟨by unfold tyV; rw [HT.out, HF.out], below_to (below_to hbX b1) b2⟩
end Go.Proofs.YtjmfpgalepahoaaGreatDoor
