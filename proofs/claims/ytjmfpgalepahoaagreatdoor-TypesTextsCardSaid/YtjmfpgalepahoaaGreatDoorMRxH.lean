/- The document's own parser: word at 'has'. -/
import Derived.Test.YtjmfpgalepahoaaGreatDoorMRxW
namespace Go.Proofs.YtjmfpgalepahoaaGreatDoor
open Go.RowKit
set_option maxHeartbeats 8000000 in
set_option maxRecDepth 100000 in
theorem xhas_step {w0 : World} {g : Nat} {T : List Tk} {h cap : Nat}
    (w : World) (i : Nat) (s : List UInt8) (r : Except Nat (Ex × List Tk)) (p : XG w0 w g T h cap i (-1)) (hl1 : i + 1 < T.length) (hw : s = wHas) (hr : pHas (T.drop (i + 1)) = some r) :
    Calls Tryz.prog 262 #[.pointer (some ⟨g, 0, none⟩), .string ⟨s.toArray⟩] w (XEnd w0 w g T h cap r) := by
  have hgl := p.glt
  have d1 := below_alloc w (.cells #[.int .i64 0, .int .i64 0, .string ⟨#[]⟩, .slice none 0 0] 25)
  have f1 := four_new w (.int .i64 0) (.int .i64 0) (.string ⟨#[]⟩) (.slice none 0 0) 25
  have zz1 := alloc_size w (.cells #[.int .i64 0, .int .i64 0, .string ⟨#[]⟩, .slice none 0 0] 25)
  obtain ⟨w1, hw1⟩ : ∃ x, w.alloc (.cells #[.int .i64 0, .int .i64 0, .string ⟨#[]⟩, .slice none 0 0] 25) = x := ⟨_, rfl⟩
  rw [hw1] at d1 f1 zz1
  have p1 := p.later d1
  obtain ⟨-, y1, -, fy1, -⟩ := p1.cells
  have p2 := p1.goes (j := i + 1) (z := (i : Int) + 1) hl1 (by push_cast; rfl)
  have HF2 := Lib.hid (f1.away ((Away.refl g w1).set 1 (.int .i64 ((i : Int) + 1))) (by omega))
  have HA2 := Lib.hid ((Away.of (g := g) d1).set 1 (.int .i64 ((i : Int) + 1)))
  have HV : Hid (w.heap.size < (w1.setCell ⟨g, 1, none⟩ (.int .i64 ((i : Int) + 1))).heap.size) := Lib.hid (by rw [set_size]; omega)
  have hbig := p.big
  have hlt := p.lt
  have hwr : IntKind.i64.wrap ((i : Int) + 1) = (i : Int) + 1 := IntWalk.i64_in _ (by omega)
  have HGL := Lib.hid hgl
  obtain ⟨t1, ht1, hd1, -⟩ := p2.tok
  have c1 := xmust_any w0 _ g T h cap (i + 1) [40] (by decide) t1 p2 ht1
  have hq0 := word_ne (s := s) (L := [116, 114, 117, 101]) (by rw [hw]; decide)
  have hp0 := hq0
  rw [lit0] at hp0
  have hq1 := word_ne (s := s) (L := [102, 97, 108, 115, 101]) (by rw [hw]; decide)
  have hp1 := hq1
  rw [lit1] at hp1
  have hq2 := word_ne (s := s) (L := [105, 102]) (by rw [hw]; decide)
  have hp2 := hq2
  rw [lit2] at hp2
  have hq3 := word_ne (s := s) (L := [108, 101, 110]) (by rw [hw]; decide)
  have hp3 := hq3
  rw [lit3] at hp3
  have hq4 := word_ne (s := s) (L := [99, 97, 116]) (by rw [hw]; decide)
  have hp4 := hq4
  rw [lit4] at hp4
  have hq5 := word_ne (s := s) (L := [99, 117, 116]) (by rw [hw]; decide)
  have hp5 := hq5
  rw [lit5] at hp5
  have hq6 := word_ne (s := s) (L := [117, 112]) (by rw [hw]; decide)
  have hp6 := hq6
  rw [lit6] at hp6
  have hq7 : ((⟨s.toArray⟩ : ByteArray).toList == ByteArray.toList ⟨#[104, 97, 115]⟩) = true := by rw [hw]; simp
  have hp7 := hq7
  rw [lit7] at hp7
  generalize (⟨s.toArray⟩ : ByteArray) = S at *
  unfold pHas mustS at hr
  cases hI : isS (T.drop (i + 1)) [40] with
  | false =>
    rw [hI, if_neg (by decide), bnd_err rfl] at hr
    injection hr with hr
    have HR : Hid (r = .error t1.a) := Lib.hid (by rw [← hr, hd1]; rfl)
    have HI := Lib.hid hI
    clear hr hI p p1 p2 ht1 hd1 f1 d1 hw
    go_enter Tryz.func262, Tryz.ntmps262
    go_wp2_with fail
    refine c1.mono ?_
    rintro e w3 ⟨rfl, a3, q3⟩
    rw [if_neg (by rw [HI.out]; decide), if_neg (by rw [HI.out]; decide)] at q3
    obtain ⟨-, x1, x2, -⟩ := q3.cells
    have hta : (0 : Int) ≤ ((t1.a : Nat) : Int) := by omega
    have hta2 : ¬ ((t1.a : Nat) : Int) < 0 := by omega
    have hR3 := HF2.out.away a3 (by omega)
    obtain ⟨-, z0, z1, z2, z3, f0', f1', f2', f3'⟩ := hR3
    have A3 := Lib.hid a3
    have Q3 := Lib.hid q3
    clear c1 a3 q3
    go_wp2_with fail
    exact bodyPost_ret (v := EV 0 0 ⟨#[]⟩ (.slice none 0 0)) (by simp [EV, results, Tryz.results262, go_sem, z0, z1, z2, z3]) rfl ⟨(HA2.out.trans A3.out).put4 (Nat.le_refl _) _ _ _ _, 0, 0, ⟨#[]⟩, none, 0, 0, rfl, .inr ⟨t1.a, (i + 1), HR.out, (Q3.out).put4 hgl _ _ _ _⟩⟩
  | true =>
    rw [hI, if_pos rfl, bnd_ok rfl, List.tail_drop] at hr
    have HI := Lib.hid hI
    clear hI p p1 ht1 hd1 f1 d1 hw p2
    go_enter Tryz.func262, Tryz.ntmps262
    go_wp2_with fail
    refine c1.mono ?_
    rintro e w3 ⟨rfl, a3, q3⟩
    rw [if_pos HI.out, if_pos HI.out] at q3
    obtain ⟨-, x1, x2, -⟩ := q3.cells
    obtain ⟨t2, ht2, hd2, -⟩ := q3.tok
    have hs3 := a3.size
    have hv := HV.out
    have HF3 := Lib.hid (HF2.out.away a3 (by omega))
    have HA3 := Lib.hid (HA2.out.trans a3)
    have Q3 := Lib.hid q3
    have HT2 := Lib.hid ht2
    have hmem := List.mem_of_getElem? ht2
    have HSZ := Lib.hid (q3.good.size t2 hmem)
    have HNX := Lib.hid (fun (hk : t2.k ≠ 0) => q3.next ht2 hk)
    have cT := xtok_any w0 w3 g T h cap (i + 1 + 1) (-1) t2 q3 ht2
    rw [hd2] at hr
    dsimp only at hr
    clear c1 a3 q3 ht2 hmem hd2
    by_cases hk : t2.k = 3
    · have hkI : ((t2.k : Nat) : Int) = 3 := by rw [hk]; rfl
      rw [hkI] at cT
      obtain ⟨B, hB⟩ : ∃ B : Bool, B = true ↔ (⟨t2.s.toArray⟩ : ByteArray) ∈ words := by
        by_cases h : (⟨t2.s.toArray⟩ : ByteArray) ∈ words
        · exact ⟨true, by simp [h]⟩
        · exact ⟨false, by simp [h]⟩
      have cV := fun w => reserved_any ⟨t2.s.toArray⟩ B hB w
      have hwi : isWordL t2.s = B := by
        have hw := word_isL ⟨t2.s.toArray⟩
        cases B with
        | true => exact hw.1 (hB.1 rfl)
        | false =>
          cases hi : isWordL t2.s with
          | false => rfl
          | true => exact absurd (hB.2 (hw.2 hi)) (by decide)
      cases B with
      | true =>
        rw [if_neg (by rw [hwi]; simp)] at hr
        injection hr with hr
        have HR := Lib.hid hr
        clear hr hwi hB hk hkI
        generalize hS2 : (⟨t2.s.toArray⟩ : ByteArray) = S2 at *
        clear hS2
        go_wp2_with fail
        refine cT.mono ?_
        rintro e w4 ⟨rfl, b4⟩
        have d5 := below_alloc w4 (.cells #[.int .i64 3, .string S2, .int .i64 (t2.n : Int), .int .i64 (t2.a : Int)] 61)
        have f5 := four_new w4 (.int .i64 3) (.string S2) (.int .i64 (t2.n : Int)) (.int .i64 (t2.a : Int)) 61
        obtain ⟨w5, hw5⟩ : ∃ x, w4.alloc (.cells #[.int .i64 3, .string S2, .int .i64 (t2.n : Int), .int .i64 (t2.a : Int)] 61) = x := ⟨_, rfl⟩
        rw [hw5] at d5 f5
        have hs4 := b4.size
        have hs5 := d5.size
        have d35 := below_to b4 d5
        have P5 := Lib.hid (Q3.out.later d35)
        have F5 := Lib.hid f5
        have R5 := Lib.hid (HF3.out.later d35)
        have A5 := Lib.hid (HA3.out.next d35)
        obtain ⟨-, k0, k1, k2, k3, -⟩ := f5
        clear cT b4 d5 d35
        go_wp2_with fail
        refine (cV _).mono ?_
        rintro e w6 ⟨rfl, b6⟩
        have P6 := Lib.hid (P5.out.later b6)
        have R6 := Lib.hid (R5.out.later b6)
        have A6 := Lib.hid (A5.out.next b6)
        have hs6 := b6.size
        clear b6 cV k0 k1 k2 k3
        have hgl := HGL.out
        obtain ⟨-, x1, x2, fx1, fx2⟩ := P6.out.cells
        have cW := xwrong_any w0 w6 g T h cap (i + 1 + 1) t2 P6.out HT2.out
        go_wp2_with fail
        refine cW.mono ?_
        rintro e w7 ⟨rfl, a7, q7⟩
        have hR7 := R6.out.away a7 (by omega)
        obtain ⟨-, z0, z1, z2, z3, f0', f1', f2', f3'⟩ := hR7
        have A7 := Lib.hid a7
        have Q7 := Lib.hid q7
        clear cW a7 q7
        go_wp2_with fail
        exact bodyPost_ret (v := EV 0 0 ⟨#[]⟩ (.slice none 0 0)) (by simp [EV, results, Tryz.results262, go_sem, z0, z1, z2, z3]) rfl ⟨(A6.out.trans A7.out).put4 (Nat.le_refl _) _ _ _ _, 0, 0, ⟨#[]⟩, none, 0, 0, rfl, .inr ⟨t2.a, (i + 1 + 1), HR.out.symm, (Q7.out).put4 hgl _ _ _ _⟩⟩
      | false =>
        rw [if_pos ⟨hk, hwi⟩] at hr
        have HL := Lib.hid (HNX.out (by omega))
        clear hwi hB hk hkI
        have HR := Lib.hid hr
        clear hr
        generalize hS2 : (⟨t2.s.toArray⟩ : ByteArray) = S2 at *
        have HSS := Lib.hid hS2
        clear hS2
        go_wp2_with fail
        refine cT.mono ?_
        rintro e w4 ⟨rfl, b4⟩
        have d5 := below_alloc w4 (.cells #[.int .i64 3, .string S2, .int .i64 (t2.n : Int), .int .i64 (t2.a : Int)] 61)
        have f5 := four_new w4 (.int .i64 3) (.string S2) (.int .i64 (t2.n : Int)) (.int .i64 (t2.a : Int)) 61
        obtain ⟨w5, hw5⟩ : ∃ x, w4.alloc (.cells #[.int .i64 3, .string S2, .int .i64 (t2.n : Int), .int .i64 (t2.a : Int)] 61) = x := ⟨_, rfl⟩
        rw [hw5] at d5 f5
        have hs4 := b4.size
        have hs5 := d5.size
        have d35 := below_to b4 d5
        have P5 := Lib.hid (Q3.out.later d35)
        have F5 := Lib.hid f5
        have R5 := Lib.hid (HF3.out.later d35)
        have A5 := Lib.hid (HA3.out.next d35)
        obtain ⟨-, k0, k1, k2, k3, -⟩ := f5
        clear cT b4 d5 d35
        go_wp2_with fail
        refine (cV _).mono ?_
        rintro e w6 ⟨rfl, b6⟩
        have p6 := P5.out.later b6
        have R6 := Lib.hid (R5.out.later b6)
        have A6 := Lib.hid (A5.out.next b6)
        have F6 := F5.out.later b6
        have hs6 := b6.size
        have hgl := HGL.out
        obtain ⟨-, x1, x2, fx1, fx2⟩ := p6.cells
        have P7 := Lib.hid (p6.goes (j := i + 1 + 1 + 1) (z := ((i + 1 + 1 : Nat) : Int) + 1) HL.out (by push_cast; rfl))
        have hl3 := HL.out
        have hwr2 : IntKind.i64.wrap (((i + 1 + 1 : Nat) : Int) + 1) = ((i + 1 + 1 : Nat) : Int) + 1 := IntWalk.i64_in _ (by omega)
        obtain ⟨t3, ht3, hd3, -⟩ := P7.out.tok
        have c8 := xmust_any w0 _ g T h cap (i + 1 + 1 + 1) [41] (by decide) t3 P7.out ht3
        have F7 := Lib.hid (F6.away ((Away.refl g w6).set 1 (.int .i64 (((i + 1 + 1 : Nat) : Int) + 1))) (by omega))
        have R7 := Lib.hid (R6.out.away ((Away.refl g w6).set 1 (.int .i64 (((i + 1 + 1 : Nat) : Int) + 1))) (by omega))
        have A7 := Lib.hid (A6.out.set 1 (.int .i64 (((i + 1 + 1 : Nat) : Int) + 1)))
        have HD3 := Lib.hid hd3
        clear b6 cV k0 k1 k2 k3 F6 p6 hd3 ht3
        generalize hII : ((i + 1 + 1 : Nat) : Int) = II at *
        clear hII
        go_wp2_with fail
        refine c8.mono ?_
        rintro e w8 ⟨rfl, a8, q8⟩
        have hF8 := F7.out.away a8 (by omega)
        have hR8 := R7.out.away a8 (by omega)
        obtain ⟨-, k0, k1, k2, k3, -⟩ := hF8
        have A8 := Lib.hid (A7.out.trans a8)
        have hs8 := a8.size
        rw [set_size] at hs8
        have d9 := below_alloc w8 (.cells #[.int .i64 4, .int .i64 0, .string S2, .slice none 0 0] 25)
        have z9 := alloc_size w8 (.cells #[.int .i64 4, .int .i64 0, .string S2, .slice none 0 0] 25)
        have HROW : Hid (RowIn (w8.alloc (.cells #[.int .i64 4, .int .i64 0, .string S2, .slice none 0 0] 25)) (Up (w.heap.size + 1)) w8.heap.size 0 [.mk 4 0 t2.s []]) :=
          Lib.hid (row_one (by rw [← HSS.out]; exact ExIn.leaf ⟨⟨by decide, by decide⟩, in64_0, by have := HSZ.out; omega⟩))
        obtain ⟨w9, hw9⟩ : ∃ x, w8.alloc (.cells #[.int .i64 4, .int .i64 0, .string S2, .slice none 0 0] 25) = x := ⟨_, rfl⟩
        rw [hw9] at d9 z9 HROW
        have hR9 := hR8.later d9
        obtain ⟨-, z0, z1, z2, z3, f0', f1', f2', f3'⟩ := hR9
        have A9 := Lib.hid (A8.out.next d9)
        have Q9 := Lib.hid (q8.later d9)
        clear c8 a8 q8 d9 hR8 x1 x2 fx1 fx2
        go_wp2_with fail
        refine bodyPost_ret (v := EV 22 0 ⟨#[]⟩ (.slice (some ⟨w8.heap.size, 0, none⟩) 1 1)) (by simp [EV, results, Tryz.results262, go_sem, z0, z1, z2, z3]) rfl ?_
        refine ⟨A9.out.put4 (Nat.le_refl _) _ _ _ _, 22, 0, ⟨#[]⟩, some ⟨w8.heap.size, 0, none⟩, 1, 1, rfl, ?_⟩
        have q9 := Q9.out
        have hr := HR.out
        cases hm : isS (T.drop (i + 1 + 1 + 1)) [41] with
        | true =>
          rw [if_pos hm, if_pos hm] at q9
          rw [hm, if_pos rfl, bnd_ok rfl, List.tail_drop] at hr
          injection hr with hr
          refine .inl ⟨_, i + 1 + 1 + 1 + 1, hr.symm, ?_, q9.put4 hgl _ _ _ _⟩
          refine ex_one ⟨by decide, by decide⟩ (by show w.heap.size ≤ w8.heap.size; omega) (by rw [set4_size]; omega) ?_
          exact row_set4 HROW.out (by omega) (by omega) (by omega) (by omega) _ _ _ _
        | false =>
          rw [if_neg (by rw [hm]; decide), if_neg (by rw [hm]; decide)] at q9
          rw [hm, if_neg (by decide), bnd_err rfl] at hr
          injection hr with hr
          exact .inr ⟨t3.a, i + 1 + 1 + 1, by rw [← hr, HD3.out]; rfl, q9.put4 hgl _ _ _ _⟩
    · rw [if_neg (by rintro ⟨h1, -⟩; exact hk h1)] at hr
      injection hr with hr
      have HR := Lib.hid hr
      have hb3 : ((t2.k : Int) != 3) = true := by simp; omega
      have hn3 : ¬ (t2.k : Int) = 3 := by omega
      clear hr hk
      generalize hS2 : (⟨t2.s.toArray⟩ : ByteArray) = S2 at *
      clear hS2
      go_wp2_with fail
      refine cT.mono ?_
      rintro e w4 ⟨rfl, b4⟩
      have d5 := below_alloc w4 (.cells #[.int .i64 (t2.k : Int), .string S2, .int .i64 (t2.n : Int), .int .i64 (t2.a : Int)] 61)
      have f5 := four_new w4 (.int .i64 (t2.k : Int)) (.string S2) (.int .i64 (t2.n : Int)) (.int .i64 (t2.a : Int)) 61
      obtain ⟨w5, hw5⟩ : ∃ x, w4.alloc (.cells #[.int .i64 (t2.k : Int), .string S2, .int .i64 (t2.n : Int), .int .i64 (t2.a : Int)] 61) = x := ⟨_, rfl⟩
      rw [hw5] at d5 f5
      have hs4 := b4.size
      have hs5 := d5.size
      have d35 := below_to b4 d5
      have P5 := Lib.hid (Q3.out.later d35)
      have F5 := Lib.hid f5
      have R5 := Lib.hid (HF3.out.later d35)
      have A5 := Lib.hid (HA3.out.next d35)
      obtain ⟨-, k0, k1, k2, k3, -⟩ := f5
      clear cT b4 d5 d35
      have P6 := P5
      have R6 := R5
      have A6 := A5
      have hgl := HGL.out
      obtain ⟨-, x1, x2, fx1, fx2⟩ := P6.out.cells
      have cW := xwrong_any w0 w5 g T h cap (i + 1 + 1) t2 P6.out HT2.out
      go_wp2_with fail
      refine cW.mono ?_
      rintro e w7 ⟨rfl, a7, q7⟩
      have hR7 := R6.out.away a7 (by omega)
      obtain ⟨-, z0, z1, z2, z3, f0', f1', f2', f3'⟩ := hR7
      have A7 := Lib.hid a7
      have Q7 := Lib.hid q7
      clear cW a7 q7
      go_wp2_with fail
      exact bodyPost_ret (v := EV 0 0 ⟨#[]⟩ (.slice none 0 0)) (by simp [EV, results, Tryz.results262, go_sem, z0, z1, z2, z3]) rfl ⟨(A6.out.trans A7.out).put4 (Nat.le_refl _) _ _ _ _, 0, 0, ⟨#[]⟩, none, 0, 0, rfl, .inr ⟨t2.a, (i + 1 + 1), HR.out.symm, (Q7.out).put4 hgl _ _ _ _⟩⟩
end Go.Proofs.YtjmfpgalepahoaaGreatDoor
