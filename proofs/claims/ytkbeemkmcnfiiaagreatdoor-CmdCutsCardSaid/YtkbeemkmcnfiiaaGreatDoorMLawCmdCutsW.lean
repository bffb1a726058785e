/- The statement CmdCuts: cut anywhere, or with a byte behind, a command's bytes are no command's. Conditions: none but what the card ties (the library's variables hold what their texts lay). -/
import Derived.Test.YtkbeemkmcnfiiaaGreatDoorMCmGA
import Derived.Test.YtkbeemkmcnfiiaaGreatDoorMBy14
namespace Go.Proofs.YtkbeemkmcnfiiaaGreatDoor
open Go.ChangeShapes Go.WideShapes Go.ChangeAt Go.RowKit Go.Lib

set_option maxHeartbeats 4000000 in
set_option maxRecDepth 100000 in
theorem cmdcuts_walk (c : Cm) (at_ more : Int) (w : World) (hi : c.In) (hf : c.f.size ≤ maxLen) (hs : c.s.size ≤ maxLen) (a0 : -9223372036854775808 ≤ at_) (a1 : at_ ≤ 9223372036854775807) (m0 : 0 ≤ more) (m1 : more ≤ 255) (hE : Env7 w) :
    Calls Tryz.prog 6 #[c.v, .int .i64 at_, .int .u8 more] w fun e w' => e = .returned (.bool true) ∧ Below w.heap.size w w' := by
  obtain ⟨mb, rfl⟩ : ∃ mb : UInt8, more = (mb.toNat : Int) := ⟨UInt8.ofNat more.toNat, by simp; omega⟩
  clear m0 m1
  have hbw1 := below_alloc w (.cells c.cs 25)
  have C1 := Blk.new w c.cs 25
  obtain ⟨w1, hw1⟩ : ∃ w1, w.alloc (.cells c.cs 25) = w1 := ⟨_, rfl⟩
  rw [hw1] at C1 hbw1
  have hE1 := hE.later hbw1
  have hAw := fun w' (hb : Below w1.heap.size w1 w') => cmawake_any w' (hE1.later hb).tabs
  have cS := short_any c w1 hf hs
  have cD := fun w' (hb : Below w1.heap.size w1 w') => rcheck_any c hi w' (hE1.later hb) (by unfold maxLen at hf; omega)
  have hSz : shortB c = true → c.f.data.toList.length ≤ 1000000 ∧ c.s.data.toList.length ≤ 1000000 := fun h2 => by
    unfold shortB at h2; simp only [Bool.and_eq_true, decide_eq_true_eq] at h2; rw [size_list, size_list]; omega
  have cP := fun (h : cmdB c = true) (h2 : shortB c = true) w' => pput_any c hi (cmdB_kind h) w' (hSz h2).1 (hSz h2).2
  have hXl : shortB c = true → cmdB c = true → (putC c).length ≤ 1000000000 := fun h2 h => putC_short c hi (cmdB_kind h) (hSz h2).1 (hSz h2).2
  have hcut := fun (h : cmdB c = true) k hk => getC_cut hi h k hk
  have hmore := fun (h : cmdB c = true) => getC_more hi h mb
  have hXp := putC_pos c
  have cG := fun A (L : List UInt8) cap w' hl hB hc hb => pget_any A L cap w' hl hB hc (hE1.later (w' := w') hb)
  unfold GotC at cG
  obtain ⟨X, hX⟩ : ∃ X, putC c = X := ⟨_, rfl⟩
  simp only [hX] at cP hXl hcut hmore hXp
  have kC := fun wz (h : Below w1.heap.size w1 wz) => (C1.later h).c8
  obtain ⟨B, hBv⟩ : ∃ B, cmdB c = B := ⟨_, rfl⟩
  obtain ⟨S, hSv⟩ : ∃ S, shortB c = S := ⟨_, rfl⟩
  simp only [hBv] at cD cP hXl hcut hmore
  simp only [hSv] at cS cP hXl
  clear hBv hSv hSz hX hi hE hE1 hf hs
  obtain ⟨kd, se, sq, f, ve, K, n, s⟩ := c
  simp only [Cm.v, Cm.cs] at hw1 C1 cS cD kC cP ⊢
  cases S with
  | false =>
    clear cD cP hcut hmore hXp cG kC hXl
    go_enter Tryz.func6, Tryz.ntmps6
    obtain ⟨hl, c0, c1, c2, c3, c4, c5, c6, c7⟩ := C1.c8
    go_wp2_with fail
    refine cS.mono ?_
    rintro x w2 ⟨rfl, hb2⟩
    have hA := hAw w2 hb2
    have hbw2 := below_to hbw1 hb2
    clear hl c0 c1 c2 c3 c4 c5 c6 c7 cS hw1
    go_wp2_with fail
    refine hA.mono ?_
    rintro x w3 ⟨rfl, hb3⟩
    go_wp2
    go_ret
    exact ⟨rfl, below_to hbw2 hb3⟩
  | true =>
    cases B with
    | false =>
      clear cP hcut hmore hXp cG hXl
      go_enter Tryz.func6, Tryz.ntmps6
      obtain ⟨hl, c0, c1, c2, c3, c4, c5, c6, c7⟩ := C1.c8
      go_wp2_with fail
      refine cS.mono ?_
      rintro x w2 ⟨rfl, hb2⟩
      clear hl c0 c1 c2 c3 c4 c5 c6 c7 cS hw1
      obtain ⟨hl, c0, c1, c2, c3, c4, c5, c6, c7⟩ := kC w2 hb2
      go_wp2_with fail
      refine (cD w2 hb2).mono ?_
      rintro x w3 ⟨rfl, hb3⟩
      replace hb3 := below_to hb2 hb3
      have hA := hAw w3 hb3
      have hbw3 := below_to hbw1 hb3
      clear hl c0 c1 c2 c3 c4 c5 c6 c7 cD hb2
      go_wp2_with fail
      refine hA.mono ?_
      rintro x w4 ⟨rfl, hb4⟩
      go_wp2
      go_ret
      exact ⟨rfl, below_to hbw3 hb4⟩
    | true =>
      replace cP := cP (by trivial) (by trivial)
      replace hXl := hXl (by trivial) (by trivial)
      replace hcut := hcut (by trivial)
      replace hmore := hmore (by trivial)
      obtain ⟨k, hk, cK⟩ := place_nat at_ X.length a0 a1 hXp (by omega)
      have hG1 := hcut k hk
      have hkl : (X.take k).length = k := by rw [List.length_take]; omega
      have cG1 := fun A cap w' hB hc hb => cG A (X.take k) cap w' (by omega) hB hc hb
      have cG2 := fun A cap w' hB hc hb => cG A (X ++ [mb]) cap w' (by rw [List.length_append]; simp; omega) hB hc hb
      simp only [hkl] at cG1
      have hXm : (X ++ [mb]).length = X.length + 1 := by simp
      obtain ⟨g1, hd1⟩ : ∃ g, getC (X.take k) = g := ⟨_, rfl⟩
      obtain ⟨⟨kd1, se1, sq1, f1, ve1, K1, n1, s1⟩, y1⟩ := g1
      obtain ⟨g2, hd2⟩ : ∃ g, getC (X ++ [mb]) = g := ⟨_, rfl⟩
      obtain ⟨⟨kd2, se2, sq2, f2, ve2, K2, n2, s2⟩, y2⟩ := g2
      simp only [hd1] at cG1 hG1
      simp only [hd2] at cG2 hmore
      obtain rfl : y1 = false := hG1
      obtain rfl : y2 = false := hmore
      have HTK := Lib.hid hkl
      have HXM := Lib.hid hXm
      have HX0 : ((X.length : Int) == 0) = false := beq_eq_false_iff_ne.2 (by omega)
      clear hd1 hd2 hkl hXm cG hcut a0 a1
      go_enter Tryz.func6, Tryz.ntmps6
      obtain ⟨hl, c0, c1, c2, c3, c4, c5, c6, c7⟩ := C1.c8
      go_wp2_with fail
      refine cS.mono ?_
      rintro x w2 ⟨rfl, hb2⟩
      clear hl c0 c1 c2 c3 c4 c5 c6 c7 cS hw1
      obtain ⟨hl, c0, c1, c2, c3, c4, c5, c6, c7⟩ := kC w2 hb2
      go_wp2_with fail
      refine (cD w2 hb2).mono ?_
      rintro x w3 ⟨rfl, hb3⟩
      replace hb3 := below_to hb2 hb3
      clear hl c0 c1 c2 c3 c4 c5 c6 c7 cD hb2
      obtain ⟨hl, c0, c1, c2, c3, c4, c5, c6, c7⟩ := kC w3 hb3
      go_wp2_with fail
      refine (cP w3).mono ?_
      rintro x w4 ⟨A4, cap4, rfl, hB4, hc4, ho4, hb4⟩
      replace hb4 := below_to hb3 hb4
      have hcap4 := own_cap ho4
      have hkc : k ≤ cap4 := by omega
      clear hl c0 c1 c2 c3 c4 c5 c6 c7 cP hb3 kC ho4
      go_wp2_with fail
      refine (cK w4).mono ?_
      rintro x w5 ⟨rfl, rfl⟩
      have hBk := bs_take hB4 k
      go_wp2_with fail
      refine (cG1 A4 cap4 w4 hBk hc4 hb4).mono ?_
      rintro x w6 ⟨rfl, hb6⟩
      have hB6 := hB4.below hb6
      replace hb6 := below_to hb4 hb6
      have b7 := below_alloc w6 (.cells (cs8 kd1 se1 sq1 f1 ve1 K1 n1 s1) 25)
      have hB7 := hB6.below b7
      have hb7 := below_to hb6 b7
      clear cG1 cK hBk hB4 hB6 hb4
      go_wp2_with fail
      generalize hw7 : w6.alloc (.cells (cs8 kd1 se1 sq1 f1 ve1 K1 n1 s1) 25) = w7 at *
      clear hw7 b7 hb6
      refine (bytes_any A4 X cap4 w7 (by omega) hB7 hc4).mono ?_
      rintro x w8 ⟨A8, cap8, rfl, hB8, hc8, ho8, hb8⟩
      have b9 := below_alloc w8 (.cells #[.int .u8 (mb.toNat : Int)] 5)
      have hB9 : Bs (w8.alloc (.cells #[.int .u8 (mb.toNat : Int)] 5)) (some ⟨w8.heap.size, 0, none⟩) [mb] := bs_new w8 mb 5 (0, 0)
      have ho9 := own_later ho8 b9
      have hb9 := below_to hb8 b9
      have hmb := byte_hi mb
      obtain ⟨w9, hw9⟩ : ∃ w9, w8.alloc (.cells #[.int .u8 (mb.toNat : Int)] 5) = w9 := ⟨_, rfl⟩
      rw [hw9] at b9 hB9 ho9 hb9
      have hz9 := hb9.size
      have HO9 := Lib.hid ho9
      have HB7 := Lib.hid hb7
      have HB9 := Lib.hid hb9
      clear hB8 hc8 ho8 hb8 b9 hB7 hc4 ho9
      go_wp2_with (at_builtin; refine wpList_append_own_src rfl (.tmp 38) (.tmp 40) 33 rfl w7.heap.size _ X [mb] rfl HO9.out hXp _ rfl (src_slice 1 hB9 (by simp)) (by simp; omega) hz9 ?_; intro b' w10 ho hb10)
      obtain ⟨A10, cap10, e10, hB10, hc10, -, -⟩ := own_bytes (w := w7) ho (HB9.out.trans hb10)
      injection e10 with e10
      subst e10
      have hb10' := below_to HB7.out (HB9.out.trans hb10)
      clear ho hb10
      refine (cG2 A10 cap10 w10 hB10 hc10 hb10').mono ?_
      rintro x w11 ⟨rfl, hb11⟩
      replace hb11 := below_to hb10' hb11
      have b12 := below_alloc w11 (.cells (cs8 kd2 se2 sq2 f2 ve2 K2 n2 s2) 25)
      have hb12 := below_to hb11 b12
      have hA := hAw _ hb12
      have HB12 := Lib.hid (below_to hbw1 hb12)
      clear cG2 hb10' hb11 b12 hB10 hc10 hw9 hB9 hAw
      go_wp2_with fail
      refine hA.mono ?_
      rintro x w13 ⟨rfl, hb13⟩
      go_wp2
      go_ret
      exact ⟨rfl, below_to HB12.out hb13⟩
end Go.Proofs.YtkbeemkmcnfiiaaGreatDoor
