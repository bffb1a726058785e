/- The document's own parser: args. -/
import Derived.Test.YtjmfpgalepahoaaGreatDoorMRxU
import Derived.Test.YtjmfpgalepahoaaGreatDoorGM
namespace Go.Proofs.YtjmfpgalepahoaaGreatDoor
open Go.RowKit
theorem four_block {w w' : World} {k : Nat} {a b c d : Value} (hF : Four w k a b c d) (he : w'.heap[k]? = w.heap[k]?) (hs : w.heap.size ≤ w'.heap.size) : Four w' k a b c d :=
  ⟨Nat.lt_of_lt_of_le hF.lt hs, (World.cell?_of_block (w := w) (a := ⟨k, 0, none⟩) he).trans hF.c0, (World.cell?_of_block (w := w) (a := ⟨k, 1, none⟩) he).trans hF.c1, (World.cell?_of_block (w := w) (a := ⟨k, 2, none⟩) he).trans hF.c2, (World.cell?_of_block (w := w) (a := ⟨k, 3, none⟩) he).trans hF.c3,
    (World.frozen?_of_block (w := w) (a := ⟨k, 0, none⟩) he).trans hF.f0, (World.frozen?_of_block (w := w) (a := ⟨k, 1, none⟩) he).trans hF.f1, (World.frozen?_of_block (w := w) (a := ⟨k, 2, none⟩) he).trans hF.f2, (World.frozen?_of_block (w := w) (a := ⟨k, 3, none⟩) he).trans hF.f3⟩
theorem XG.grown {w0 w w' : World} {g : Nat} {T : List Tk} {h cap i : Nat} {bad : Int} {row : Option Nat} (q : XG w0 w g T h cap i bad) (hg : w.grownBy w' row) (hn : ∀ b, b ≤ g → some b ≠ row) : XG w0 w' g T h cap i bad :=
  ⟨q.env, ⟨hg.os.trans q.base.os, hg.tape.trans q.base.tape, hg.output.trans q.base.output, Nat.le_trans q.base.size hg.size, fun b hb => (hg.block b (Nat.lt_of_lt_of_le hb q.base.size) (hn b (by have := q.gz; omega))).trans (q.base.block b hb)⟩,
    q.gz, q.good, q.lt, q.le, q.big, q.bad1, by rw [hg.block g q.glt (hn g (Nat.le_refl _))]; exact q.obj, q.hg, ⟨Nat.lt_of_lt_of_le q.row.1 hg.size, fun b t ht => by
      have e := hg.block h q.row.1 (hn h (by have := q.hg; omega))
      obtain ⟨e0, e1, e2, e3⟩ := q.row.2 b t ht
      exact ⟨(World.cell?_of_block e).trans e0, (World.cell?_of_block e).trans e1, (World.cell?_of_block e).trans e2, (World.cell?_of_block e).trans e3⟩⟩⟩
/-- The next one is read here: its sign has been passed. -/
def Nx (F op n : Nat) (r : Except Nat (Ex × List Tk)) (es : List Ex) (ts : List Tk) : Prop :=
  ∃ f, f < F ∧ ∃ re, pE f 0 ts = some re ∧ (∀ p, re = .error p → r = .error p) ∧ ∀ a q2, re = .ok (a, q2) → KS F op n r (es.length + 1) [44] (es ++ [a]) q2
theorem KS.nx {F op n : Nat} {r : Except Nat (Ex × List Tk)} {j : Nat} {s : List UInt8} {es : List Ex} {t : Tk} {q : List Tk} (h : KS F op n r j s es (t :: q)) (hj : j < n) : (sgT t ≠ s ∧ r = .error t.a) ∨ (sgT t = s ∧ Nx F op n r es q) := by
  have hl := h.1
  rcases h.step hj with h | ⟨h1, f, hf, re, h2, h3, h4⟩
  · exact .inl h
  · exact .inr ⟨h1, f, hf, re, h2, h3, fun a q2 e => by rw [hl]; exact h4 a q2 e⟩
/-- While args reads. -/
def AS (w0 w : World) (g : Nat) (T : List Tk) (h cap F op n : Nat) (r : Except Nat (Ex × List Tk)) (j : Nat) (wr : World) : Prop :=
  Away g w wr ∧ Four wr w.heap.size (.int .i64 0) (.int .i64 0) (.string ⟨#[]⟩) (.slice none 0 0) ∧ ∃ v, Four wr (w.heap.size + 1) (.int .i64 (op : Int)) (.int .i64 0) (.string ⟨#[]⟩) v ∧
    ((∃ i es, XG w0 wr g T h cap i (-1) ∧ Grow wr (w.heap.size + 2) v es ∧ es.length = j ∧ ((j = 0 ∧ Nx F op n r es (T.drop i)) ∨ (1 ≤ j ∧ KS F op n r j [44] es (T.drop i)))) ∨ (∃ (p i : Nat) (ao : Option Addr) (la ca : Nat), XG w0 wr g T h cap i (p : Int) ∧ r = .error p ∧ v = .slice ao la ca))
set_option maxHeartbeats 4000000 in
set_option maxRecDepth 100000 in
theorem xargs_step {w0 : World} {g : Nat} {T : List Tk} {h cap F : Nat} (hG : ∀ f, f < F → ∀ (w : World) (i : Nat) r, XG w0 w g T h cap i (-1) → pE f 0 (T.drop i) = some r → Calls Tryz.prog 36 #[.pointer (some ⟨g, 0, none⟩)] w (XEnd w0 w g T h cap r))
    (w : World) (i op n : Nat) (r : Except Nat (Ex × List Tk)) (hn1 : 1 ≤ n) (hn3 : n ≤ 3) (hop : op ≤ 100) (p : XG w0 w g T h cap i (-1)) (hr : pX F op n (T.drop i) = some r) : Calls Tryz.prog 264 #[.pointer (some ⟨g, 0, none⟩), .int .i64 (op : Int), .int .i64 (n : Int)] w (XEnd w0 w g T h cap r) := by
  have hgl := p.glt
  obtain ⟨i0, hi, hz0, hz1, hz2⟩ := info_parts (show (Tryz.prog.info? 25).map (fun i => (i.zero, i.size, i.bytes)) = some (some (.agg #[.int .i64 0, .int .i64 0, .string ⟨#[]⟩, .slice none 0 0]), 4, 56) by kernel_rfl)
  have d1 := below_alloc w (.cells #[.int .i64 0, .int .i64 0, .string ⟨#[]⟩, .slice none 0 0] 25)
  have f1 := four_new w (.int .i64 0) (.int .i64 0) (.string ⟨#[]⟩) (.slice none 0 0) 25
  have z1 := alloc_size w (.cells #[.int .i64 0, .int .i64 0, .string ⟨#[]⟩, .slice none 0 0] 25)
  obtain ⟨w1, hw1⟩ : ∃ x, w.alloc (.cells #[.int .i64 0, .int .i64 0, .string ⟨#[]⟩, .slice none 0 0] 25) = x := ⟨_, rfl⟩
  rw [hw1] at d1 f1 z1
  have d2 := below_alloc w1 (.cells #[.int .i64 (op : Int), .int .i64 0, .string ⟨#[]⟩, .slice none 0 0] 25)
  have f2 := four_new w1 (.int .i64 (op : Int)) (.int .i64 0) (.string ⟨#[]⟩) (.slice none 0 0) 25
  have z2 := alloc_size w1 (.cells #[.int .i64 (op : Int), .int .i64 0, .string ⟨#[]⟩, .slice none 0 0] 25)
  rw [z1] at f2
  have p2 := (p.later d1).later d2
  obtain ⟨t, ht, hd, -⟩ := p.tok
  have hKS := KS.start hr
  rw [hd] at hKS
  have HI := Lib.hid hG
  have HGL := Lib.hid hgl
  have HF2 := Lib.hid f2
  have HR2 := Lib.hid (f1.later d2)
  have HD2 := Lib.hid (below_to d1 d2)
  have c1 := xmust_any w0 _ g T h cap i [40] (by decide) t p2 ht
  have HNX := Lib.hid (hKS.nx (by omega))
  have HIS : Hid (isS (T.drop i) [40] = decide (sgT t = [40])) := Lib.hid (by rw [hd]; exact isS_sg (by decide))
  have HSZ := Lib.hid z1
  clear hKS hd ht hr hG f1 f2 d1 d2 z2 p p2 hgl
  go_enter Tryz.func264, Tryz.ntmps264
  go_wp2_with fail
  refine c1.mono ?_
  rintro e w3 ⟨rfl, a3, q3⟩
  have hs3 := a3.size
  have HST : Hid (AS w0 w g T h cap F op n r 0 w3) := by
    have hgl := HGL.out
    refine Lib.hid ⟨(Away.of HD2.out).trans a3, HR2.out.away a3 (by omega), .slice none 0 0, HF2.out.away a3 (by omega), ?_⟩
    rcases HNX.out with ⟨h1, h2⟩ | ⟨h1, h2⟩
    · rw [if_neg (by rw [HIS.out]; simp [h1]), if_neg (by rw [HIS.out]; simp [h1])] at q3
      exact .inr ⟨t.a, i, none, 0, 0, q3, h2, rfl⟩
    · rw [if_pos (by rw [HIS.out]; simp [h1]), if_pos (by rw [HIS.out]; simp [h1])] at q3
      exact .inl ⟨i + 1, [], q3, Grow.nil _ _, rfl, .inl ⟨rfl, h2⟩⟩
  clear c1 a3 q3 HNX HIS HF2 HR2 HD2
  have hg1 := HSZ.out
  go_wp2_with fail
  clear hw1 hg1 HSZ z1
  go_loopg [8] (n) (fun m s8 wr => ∃ j : Nat, j + m = n ∧ s8 = .int .i64 (j : Int) ∧ Hid (AS w0 w g T h cap F op n r j wr))
  case atStart => exact ⟨0, Nat.zero_add _, rfl, HST⟩
  case round =>
    clear HST
    obtain ⟨j, hjm, rfl, HA⟩ := hrel
    have HJM := Lib.hid hjm
    obtain ⟨aw, hR, v, hE, hst⟩ := HA.out
    have HAW := Lib.hid aw
    have HRR := Lib.hid hR
    have HE := Lib.hid hE
    clear HA aw
    rcases hst with ⟨i, es, pi, hgr, hlen, hK⟩ | ⟨pp, i, ao, la, ca, pi, rfl, rfl⟩
    · have PI := Lib.hid pi
      have HGR := Lib.hid hgr
      have HLEN := Lib.hid hlen
      obtain ⟨-, x1, x2, -, -⟩ := pi.cells
      clear pi hgr hlen hR hE
      by_cases hj : j < n
      · have hjz : (j : Int) < (n : Int) := by omega
        rcases hK with ⟨hj0, hN⟩ | ⟨hj1, hK⟩
        · have hjp : ¬ (0 : Int) < (j : Int) := by omega
          have HN := Lib.hid hN
          clear hN hj0
          have hr1 := HN.out
          obtain ⟨f, hf, re, hE, hre1, hre2⟩ := hr1
          have c2 := HI.out f hf wr i re PI.out hE
          have HRE1 := Lib.hid hre1
          have HRE2 := Lib.hid hre2
          have hsv := HAW.out.size
          have hsv2 := HE.out.lt
          clear hE hre1 hre2 HN
          go_wp2_with fail
          refine c2.mono ?_
          rintro e w4 ⟨a2, op2, n2, s2, ao2, la2, ca2, rfl, hst⟩
          have hs4 := Nat.le_trans hsv a2.size
          have d5 := below_alloc w4 (.cells #[.int .i64 op2, .int .i64 n2, .string s2, .slice ao2 la2 ca2] 25)
          have f5 := four_new w4 (.int .i64 op2) (.int .i64 n2) (.string s2) (.slice ao2 la2 ca2) 25
          have z5 := alloc_size w4 (.cells #[.int .i64 op2, .int .i64 n2, .string s2, .slice ao2 la2 ca2] 25)
          obtain ⟨w5, hw5⟩ : ∃ x, w4.alloc (.cells #[.int .i64 op2, .int .i64 n2, .string s2, .slice ao2 la2 ca2] 25) = x := ⟨_, rfl⟩
          rw [hw5] at d5 f5 z5
          obtain ⟨-, y0, y1, y2, y3, -⟩ := f5
          have d6 := below_alloc w5 (.cells #[.int .i64 op2, .int .i64 n2, .string s2, .slice ao2 la2 ca2] 25)
          have f6 := four_news w5 (.int .i64 op2) (.int .i64 n2) (.string s2) (.slice ao2 la2 ca2) 25
          have z6 := alloc_size w5 (.cells #[.int .i64 op2, .int .i64 n2, .string s2, .slice ao2 la2 ca2] 25)
          obtain ⟨w6, hw6⟩ : ∃ x, w5.alloc (.cells #[.int .i64 op2, .int .i64 n2, .string s2, .slice ao2 la2 ca2] 25) = x := ⟨_, rfl⟩
          rw [hw6] at d6 f6 z6
          rw [z5] at f6
          have d46 := below_to d5 d6
          have HRv := Lib.hid ((HRR.out.away a2 (by have := HGL.out; omega)).later d46)
          have hE5 := (HE.out.away a2 (by have := HGL.out; omega)).later d5
          have HEv := Lib.hid (hE5.later d6)
          have HG4 := HGR.out.away a2 (by have := HGL.out; omega)
          have hown4 := HGR.out
          obtain ⟨xs4, hown4, -⟩ := hown4
          obtain ⟨xs, hown, hcs⟩ := HG4.later d46
          have Av := Lib.hid ((HAW.out.trans a2).next d46)
          have HS6 : Hid ((∃ c j2, re = .ok (c, T.drop j2) ∧ ExIn w6 (But (w.heap.size + 2) v) c (EV op2 n2 s2 (.slice ao2 la2 ca2)) ∧ XG w0 w6 g T h cap j2 (-1)) ∨ (∃ p j2 : Nat, re = .error p ∧ XG w0 w6 g T h cap j2 (p : Int))) := by
            refine Lib.hid ?_
            rcases hst with ⟨c, j2, h1, h2, h3⟩ | ⟨p, j2, h1, h3⟩
            · exact .inl ⟨c, j2, h1, (h2.later d46).wide (fun b hb _ => ⟨by have : (wr).heap.size ≤ b := hb; omega, fun e => by have := (own_blk hown4 b e).2; have : (wr).heap.size ≤ b := hb; omega⟩), h3.later d46⟩
            · exact .inr ⟨p, j2, h1, h3.later d46⟩
          obtain ⟨-, x0, x1, x2, x3, -⟩ := hE5
          have HOWN := Lib.hid hown
          have HCS := Lib.hid hcs
          have hlen := HLEN.out
          clear c2 hst d5 d6 d46 a2 hown hcs HG4 hown4 HRR HE HGR HAW
          go_wp2_with (at_builtin; refine wpList_append_own_at _ rfl _ _ 23 rfl (w.heap.size + 2) 25 i0 _ 4 56 Tryz.underlying23 hi hz0 hz1 hz2 rfl (by decide) _ _ _ rfl HOWN.out ⟨w4.heap.size + 1, 0, none⟩ 1 1 [.int .i64 op2, .int .i64 n2, .string s2, .slice ao2 la2 ca2] rfl rfl ?c1 ?c2 ?c3 ?c4 ?c5 ?_)
          case c1 => exact f6
          case c2 => intro u hu; simp only [List.mem_cons, List.not_mem_nil, or_false] at hu; rcases hu with rfl | rfl | rfl | rfl <;> rfl
          case c3 => unfold maxLen; omega
          case c4 => omega
          case c5 => omega
          intro v' w7 hown' hgrow hnil hat
          have hnb : ∀ b, b < w.heap.size + 2 → some b ≠ v.ownBlock := fun b hb e => by have := (own_blk HOWN.out b e.symm).1; omega
          have A7 := Lib.hid (away_grown Av.out hgrow (fun b hb => by have := (own_blk HOWN.out b hb).1; omega))
          have hE7 := four_block HEv.out (hgrow.block _ HEv.out.lt (hnb _ (by omega))) hgrow.size
          have HE7 := Lib.hid hE7
          have HR7 := Lib.hid (four_block HRv.out (hgrow.block _ HRv.out.lt (hnb _ (by omega))) hgrow.size)
          have HS7 : Hid ((∃ c j2, re = .ok (c, T.drop j2) ∧ XG w0 w7 g T h cap j2 (-1) ∧ Grow w7 (w.heap.size + 2) v' (es ++ [c])) ∨ (∃ p j2 : Nat, re = .error p ∧ XG w0 w7 g T h cap j2 (p : Int))) := by
            refine Lib.hid ?_
            rcases HS6.out with ⟨c, j2, h1, h2, h3⟩ | ⟨p, j2, h1, h3⟩
            · exact .inl ⟨c, j2, h1, h3.grown hgrow (fun b hb => hnb b (by have := HGL.out; omega)), Grow.snoc HCS.out h2 (by rw [hlen]; exact hown') hgrow (by rw [z6, z5]; exact hat)⟩
            · exact .inr ⟨p, j2, h1, h3.grown hgrow (fun b hb => hnb b (by have := HGL.out; omega))⟩
          have hsl : ∃ ao la ca, v' = .slice ao la ca := by
            rcases hown'.2 with ⟨rfl, -⟩ | ⟨k, cp, cur, rfl, -⟩
            · exact ⟨_, _, _, rfl⟩
            · exact ⟨_, _, _, rfl⟩
          obtain ⟨-, t0, t1, t2, t3, g0, g1, g2, g3⟩ := hE7
          obtain ⟨ao7, la7, ca7, rfl⟩ := hsl
          clear hown' hgrow hat hnil HOWN HCS HS6 hnb HEv HRv Av x0 x1 x2 x3 y0 y1 y2 y3
          go_wp2_with fail
          have hgl := HGL.out
          go_roundg (n - (j + 1))
          case measure => have := HJM.out; omega
          case rel =>
            refine ⟨j + 1, by have := HJM.out; omega, by go_num, Lib.hid ⟨A7.out.put (by omega) _ _, HR7.out.away ((Away.refl (w.heap.size + 1) w7).set 3 _) (by omega), .slice ao7 la7 ca7, HE7.out.set3 _, ?_⟩⟩
            rcases HS7.out with ⟨c, j2, h1, h2, h3⟩ | ⟨p, j2, h1, h3⟩
            · exact .inl ⟨j2, es ++ [c], h2.put (by omega) _ _, h3.away ((Away.refl (w.heap.size + 1) w7).set 3 _) (by omega), by simp [hlen], .inr ⟨by omega, by rw [← HLEN.out]; exact HRE2.out _ _ h1⟩⟩
            · exact .inr ⟨p, j2, ao7, la7, ca7, h3.put (by omega) _ _, HRE1.out _ h1, rfl⟩
        · obtain ⟨t2, ht2, hd2, -⟩ := PI.out.tok
          have hI : isS (T.drop i) [44] = decide (sgT t2 = [44]) := by rw [hd2]; exact isS_sg (by decide)
          rw [hd2] at hK
          have hjp : (0 : Int) < (j : Int) := by omega
          have HJ1 := Lib.hid hj1
          have c1 := xmust_any w0 wr g T h cap i [44] (by decide) t2 PI.out ht2
          rcases hK.nx hj with ⟨h1, h2⟩ | ⟨h1, h2⟩
          · have HI2 : Hid (isS (T.drop i) [44] = false) := Lib.hid (by rw [hI]; simp [h1])
            have HR := Lib.hid h2
            have hta : ¬ ((t2.a : Nat) : Int) < 0 := by omega
            have hta2 : (0 : Int) ≤ ((t2.a : Nat) : Int) := by omega
            clear hK hd2 ht2 hI h1 h2 hj1
            go_wp2_with fail
            refine c1.mono ?_
            rintro e wm ⟨rfl, am, qm⟩
            rw [if_neg (by rw [HI2.out]; decide), if_neg (by rw [HI2.out]; decide)] at qm
            obtain ⟨-, x1, x2, -, -⟩ := qm.cells
            have QM := Lib.hid qm
            have AM := Lib.hid am
            clear c1 qm am
            go_wp2_with fail
            go_roundg (n - (j + 1))
            case measure => have := HJM.out; omega
            case rel =>
              have hgl := HGL.out
              obtain ⟨vo, vc, hv, -⟩ := HGR.out.done
              exact ⟨j + 1, by have := HJM.out; omega, by go_num, Lib.hid ⟨HAW.out.trans AM.out, HRR.out.away AM.out (by omega), v, HE.out.away AM.out (by omega), .inr ⟨t2.a, i, vo, es.length, vc, QM.out, HR.out, hv⟩⟩⟩
          · have HI2 : Hid (isS (T.drop i) [44] = true) := Lib.hid (by rw [hI]; simp [h1])
            have HN := Lib.hid h2
            clear hK hd2 ht2 hI h1 h2 hj1
            go_wp2_with fail
            refine c1.mono ?_
            rintro e wm ⟨rfl, am, qm⟩
            rw [if_pos HI2.out, if_pos HI2.out] at qm
            obtain ⟨-, x1, x2, -, -⟩ := qm.cells
            replace PI := Lib.hid qm
            replace HRR := Lib.hid (HRR.out.away am (by have := HGL.out; omega))
            replace HE := Lib.hid (HE.out.away am (by have := HGL.out; omega))
            replace HGR := Lib.hid (HGR.out.away am (by have := HGL.out; omega))
            replace HAW := Lib.hid (HAW.out.trans am)
            clear c1 qm am
            have hr1 := HN.out
            obtain ⟨f, hf, re, hE, hre1, hre2⟩ := hr1
            have c2 := HI.out f hf wm (i + 1) re PI.out hE
            have HRE1 := Lib.hid hre1
            have HRE2 := Lib.hid hre2
            have hsv := HAW.out.size
            have hsv2 := HE.out.lt
            clear hE hre1 hre2 HN
            go_wp2_with fail
            refine c2.mono ?_
            rintro e w4 ⟨a2, op2, n2, s2, ao2, la2, ca2, rfl, hst⟩
            have hs4 := Nat.le_trans hsv a2.size
            have d5 := below_alloc w4 (.cells #[.int .i64 op2, .int .i64 n2, .string s2, .slice ao2 la2 ca2] 25)
            have f5 := four_new w4 (.int .i64 op2) (.int .i64 n2) (.string s2) (.slice ao2 la2 ca2) 25
            have z5 := alloc_size w4 (.cells #[.int .i64 op2, .int .i64 n2, .string s2, .slice ao2 la2 ca2] 25)
            obtain ⟨w5, hw5⟩ : ∃ x, w4.alloc (.cells #[.int .i64 op2, .int .i64 n2, .string s2, .slice ao2 la2 ca2] 25) = x := ⟨_, rfl⟩
            rw [hw5] at d5 f5 z5
            obtain ⟨-, y0, y1, y2, y3, -⟩ := f5
            have d6 := below_alloc w5 (.cells #[.int .i64 op2, .int .i64 n2, .string s2, .slice ao2 la2 ca2] 25)
            have f6 := four_news w5 (.int .i64 op2) (.int .i64 n2) (.string s2) (.slice ao2 la2 ca2) 25
            have z6 := alloc_size w5 (.cells #[.int .i64 op2, .int .i64 n2, .string s2, .slice ao2 la2 ca2] 25)
            obtain ⟨w6, hw6⟩ : ∃ x, w5.alloc (.cells #[.int .i64 op2, .int .i64 n2, .string s2, .slice ao2 la2 ca2] 25) = x := ⟨_, rfl⟩
            rw [hw6] at d6 f6 z6
            rw [z5] at f6
            have d46 := below_to d5 d6
            have HRv := Lib.hid ((HRR.out.away a2 (by have := HGL.out; omega)).later d46)
            have hE5 := (HE.out.away a2 (by have := HGL.out; omega)).later d5
            have HEv := Lib.hid (hE5.later d6)
            have HG4 := HGR.out.away a2 (by have := HGL.out; omega)
            have hown4 := HGR.out
            obtain ⟨xs4, hown4, -⟩ := hown4
            obtain ⟨xs, hown, hcs⟩ := HG4.later d46
            have Av := Lib.hid ((HAW.out.trans a2).next d46)
            have HS6 : Hid ((∃ c j2, re = .ok (c, T.drop j2) ∧ ExIn w6 (But (w.heap.size + 2) v) c (EV op2 n2 s2 (.slice ao2 la2 ca2)) ∧ XG w0 w6 g T h cap j2 (-1)) ∨ (∃ p j2 : Nat, re = .error p ∧ XG w0 w6 g T h cap j2 (p : Int))) := by
              refine Lib.hid ?_
              rcases hst with ⟨c, j2, h1, h2, h3⟩ | ⟨p, j2, h1, h3⟩
              · exact .inl ⟨c, j2, h1, (h2.later d46).wide (fun b hb _ => ⟨by have : (wm).heap.size ≤ b := hb; omega, fun e => by have := (own_blk hown4 b e).2; have : (wm).heap.size ≤ b := hb; omega⟩), h3.later d46⟩
              · exact .inr ⟨p, j2, h1, h3.later d46⟩
            obtain ⟨-, x0, x1, x2, x3, -⟩ := hE5
            have HOWN := Lib.hid hown
            have HCS := Lib.hid hcs
            have hlen := HLEN.out
            clear c2 hst d5 d6 d46 a2 hown hcs HG4 hown4 HRR HE HGR HAW
            go_wp2_with (at_builtin; refine wpList_append_own_at _ rfl _ _ 23 rfl (w.heap.size + 2) 25 i0 _ 4 56 Tryz.underlying23 hi hz0 hz1 hz2 rfl (by decide) _ _ _ rfl HOWN.out ⟨w4.heap.size + 1, 0, none⟩ 1 1 [.int .i64 op2, .int .i64 n2, .string s2, .slice ao2 la2 ca2] rfl rfl ?c1 ?c2 ?c3 ?c4 ?c5 ?_)
            case c1 => exact f6
            case c2 => intro u hu; simp only [List.mem_cons, List.not_mem_nil, or_false] at hu; rcases hu with rfl | rfl | rfl | rfl <;> rfl
            case c3 => unfold maxLen; omega
            case c4 => omega
            case c5 => omega
            intro v' w7 hown' hgrow hnil hat
            have hnb : ∀ b, b < w.heap.size + 2 → some b ≠ v.ownBlock := fun b hb e => by have := (own_blk HOWN.out b e.symm).1; omega
            have A7 := Lib.hid (away_grown Av.out hgrow (fun b hb => by have := (own_blk HOWN.out b hb).1; omega))
            have hE7 := four_block HEv.out (hgrow.block _ HEv.out.lt (hnb _ (by omega))) hgrow.size
            have HE7 := Lib.hid hE7
            have HR7 := Lib.hid (four_block HRv.out (hgrow.block _ HRv.out.lt (hnb _ (by omega))) hgrow.size)
            have HS7 : Hid ((∃ c j2, re = .ok (c, T.drop j2) ∧ XG w0 w7 g T h cap j2 (-1) ∧ Grow w7 (w.heap.size + 2) v' (es ++ [c])) ∨ (∃ p j2 : Nat, re = .error p ∧ XG w0 w7 g T h cap j2 (p : Int))) := by
              refine Lib.hid ?_
              rcases HS6.out with ⟨c, j2, h1, h2, h3⟩ | ⟨p, j2, h1, h3⟩
              · exact .inl ⟨c, j2, h1, h3.grown hgrow (fun b hb => hnb b (by have := HGL.out; omega)), Grow.snoc HCS.out h2 (by rw [hlen]; exact hown') hgrow (by rw [z6, z5]; exact hat)⟩
              · exact .inr ⟨p, j2, h1, h3.grown hgrow (fun b hb => hnb b (by have := HGL.out; omega))⟩
            have hsl : ∃ ao la ca, v' = .slice ao la ca := by
              rcases hown'.2 with ⟨rfl, -⟩ | ⟨k, cp, cur, rfl, -⟩
              · exact ⟨_, _, _, rfl⟩
              · exact ⟨_, _, _, rfl⟩
            obtain ⟨-, t0, t1, t2, t3, g0, g1, g2, g3⟩ := hE7
            obtain ⟨ao7, la7, ca7, rfl⟩ := hsl
            clear hown' hgrow hat hnil HOWN HCS HS6 hnb HEv HRv Av x0 x1 x2 x3 y0 y1 y2 y3
            go_wp2_with fail
            have hgl := HGL.out
            go_roundg (n - (j + 1))
            case measure => have := HJM.out; omega
            case rel =>
              refine ⟨j + 1, by have := HJM.out; omega, by go_num, Lib.hid ⟨A7.out.put (by omega) _ _, HR7.out.away ((Away.refl (w.heap.size + 1) w7).set 3 _) (by omega), .slice ao7 la7 ca7, HE7.out.set3 _, ?_⟩⟩
              rcases HS7.out with ⟨c, j2, h1, h2, h3⟩ | ⟨p, j2, h1, h3⟩
              · exact .inl ⟨j2, es ++ [c], h2.put (by omega) _ _, h3.away ((Away.refl (w.heap.size + 1) w7).set 3 _) (by omega), by simp [hlen], .inr ⟨by omega, by rw [← HLEN.out]; exact HRE2.out _ _ h1⟩⟩
              · exact .inr ⟨p, j2, ao7, la7, ca7, h3.put (by omega) _ _, HRE1.out _ h1, rfl⟩
      · have hjz : ¬ (j : Int) < (n : Int) := by omega
        obtain rfl : j = n := by omega
        obtain ⟨t2, ht2, hd2, -⟩ := PI.out.tok
        have hI : isS (T.drop i) [41] = decide (sgT t2 = [41]) := by rw [hd2]; exact isS_sg (by decide)
        have c1 := xmust_any w0 wr g T h cap i [41] (by decide) t2 PI.out ht2
        have hov : (sgT t2 = [41] ∧ r = .ok (.mk op 0 [] es, T.drop (i + 1))) ∨ (sgT t2 ≠ [41] ∧ r = .error t2.a) := by
          rcases hK with ⟨h0, -⟩ | ⟨-, hK⟩
          · omega
          · rw [hd2] at hK; exact hK.over hn1
        have HOV := Lib.hid hov
        have HI2 := Lib.hid hI
        obtain ⟨vo, vc, rfl, hvc, hrow⟩ := HGR.out.done
        have HROW := Lib.hid hrow
        have HVC := Lib.hid hvc
        clear hK hd2 ht2 hI hov hrow hvc
        go_wp2_with fail
        refine c1.mono ?_
        rintro e wm ⟨rfl, am, qm⟩
        have hEm := HE.out.away am (by have := HGL.out; omega)
        have hRm := HRR.out.away am (by have := HGL.out; omega)
        obtain ⟨-, u0, u1, u2, u3, -⟩ := hEm
        obtain ⟨-, z0, z1, z2, z3, g0, g1, g2, g3⟩ := hRm
        have AM := Lib.hid am
        have QM := Lib.hid qm
        clear c1 am qm
        go_wp2_with fail
        have hgl := HGL.out
        refine bodyPost_ret (v := EV (op : Int) 0 ⟨#[]⟩ (.slice vo es.length vc)) (by simp [EV, results, Tryz.results264, go_sem, z0, z1, z2, z3]) rfl ?_
        refine ⟨(HAW.out.trans AM.out).put4 (Nat.le_refl _) _ _ _ _, op, 0, ⟨#[]⟩, vo, es.length, vc, rfl, ?_⟩
        have qm := QM.out
        rcases HOV.out with ⟨h1, h2⟩ | ⟨h1, h2⟩
        · rw [if_pos (by rw [HI2.out]; simp [h1]), if_pos (by rw [HI2.out]; simp [h1])] at qm
          refine .inl ⟨_, i + 1, h2, ?_, qm.put4 hgl _ _ _ _⟩
          have hl := HLEN.out
          refine ExIn.mk (s := []) (ks := es) ⟨⟨by omega, by omega⟩, in64_0, by decide⟩ HVC.out (by omega) (fun h0 => ?_)
          obtain ⟨b, e1, e2, e3, e4⟩ := HROW.out h0
          refine ⟨b, 0, e1, by show w.heap.size ≤ b; omega, by rw [set4_size]; exact Nat.lt_of_lt_of_le e3 AM.out.size, ?_⟩
          exact RowIn.from (fun b hb _ => by have : w.heap.size + 2 ≤ b := hb; show w.heap.size ≤ b; omega) _ _ _ (RowIn.stays (Stays.set4 wm _ _ _ _ (fun hb => by have : w.heap.size + 2 ≤ w.heap.size := hb; omega)) _ _ _ e2 (Nat.lt_of_lt_of_le e3 AM.out.size) (RowIn.stays (Stays.away AM.out (fun hb => by have : w.heap.size + 2 ≤ g := hb; omega)) _ _ _ e2 e3 e4))
        · rw [if_neg (by rw [HI2.out]; simp [h1]), if_neg (by rw [HI2.out]; simp [h1])] at qm
          exact .inr ⟨t2.a, i, h2, qm.put4 hgl _ _ _ _⟩
    · have PI := Lib.hid pi
      obtain ⟨-, x1, x2, -, -⟩ := pi.cells
      have hpn : ¬ ((pp : Nat) : Int) < 0 := by omega
      have hpn2 : (0 : Int) ≤ ((pp : Nat) : Int) := by omega
      have c1 := xmust_bad w0 wr g T h cap i pp ⟨#[41]⟩ pi
      obtain ⟨-, u0, u1, u2, u3, -⟩ := HE.out
      obtain ⟨-, z0, z1, z2, z3, g0, g1, g2, g3⟩ := HRR.out
      clear pi hE hR
      by_cases hj : j < n
      · have hjz : (j : Int) < (n : Int) := by omega
        go_wp2_with fail
        refine c1.mono ?_
        rintro e wm ⟨rfl, rfl⟩
        clear c1
        go_wp2_with fail
        exact bodyPost_ret (v := EV (op : Int) 0 ⟨#[]⟩ (.slice ao la ca)) (by simp [EV, results, Tryz.results264, go_sem, z0, z1, z2, z3]) rfl ⟨HAW.out.put4 (Nat.le_refl _) _ _ _ _, op, 0, ⟨#[]⟩, ao, la, ca, rfl, .inr ⟨pp, i, rfl, PI.out.put4 HGL.out _ _ _ _⟩⟩
      · have hjz : ¬ (j : Int) < (n : Int) := by omega
        go_wp2_with fail
        refine c1.mono ?_
        rintro e wm ⟨rfl, rfl⟩
        clear c1
        go_wp2_with fail
        exact bodyPost_ret (v := EV (op : Int) 0 ⟨#[]⟩ (.slice ao la ca)) (by simp [EV, results, Tryz.results264, go_sem, z0, z1, z2, z3]) rfl ⟨HAW.out.put4 (Nat.le_refl _) _ _ _ _, op, 0, ⟨#[]⟩, ao, la, ca, rfl, .inr ⟨pp, i, rfl, PI.out.put4 HGL.out _ _ _ _⟩⟩
end Go.Proofs.YtjmfpgalepahoaaGreatDoor
