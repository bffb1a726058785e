/- EvalNumbers: any two numbers: sums, differences, quotients are Go's, where these are numbers; what is above or below is bad. -/
import Derived.Test.YtepppianhafdjaaGreatDoorMEvLw
import Derived.Test.YtepppianhafdjaaGreatDoorGE
namespace Go.Proofs.YtepppianhafdjaaGreatDoor
open Go.RowKit

theorem i64_id {n : Int} (h : -9223372036854775808 ≤ n ∧ n ≤ 9223372036854775807) : IntKind.i64.wrap n = n := by rw [IntKind.wrap_i64]; omega
theorem tru_val (b : Bool) (z : Int) (h : z = if b then 1 else 0) (w : World) : Calls Tryz.prog 11 #[.bool b] w fun e w' => e = .returned (V3 2 z ⟨#[]⟩) ∧ Below w.heap.size w w' := by
  subst h
  exact ltruth_any b w
theorem tdiv_rng {a b : Int} (a0 : -9223372036854775808 ≤ a) (a1 : a ≤ 9223372036854775807) (hb : b ≠ 0) (hm : ¬ (a = -9223372036854775808 ∧ b = -1)) : -9223372036854775808 ≤ a.tdiv b ∧ a.tdiv b ≤ 9223372036854775807 := by
  have h1 : (a.tdiv b).natAbs ≤ a.natAbs := by rw [Int.natAbs_tdiv]; exact Nat.div_le_self _ _
  have h2 : a.natAbs ≤ 9223372036854775808 := by omega
  refine ⟨by omega, ?_⟩
  rcases Int.lt_or_le (a.tdiv b) 9223372036854775808 with h | h
  · omega
  · exfalso
    have h3 : (a.tdiv b).natAbs = 9223372036854775808 := by omega
    have h4 : a.natAbs = 9223372036854775808 := by omega
    have ha : a = -9223372036854775808 := by omega
    rw [Int.natAbs_tdiv, h4] at h3
    have hb1 : b.natAbs = 1 := by
      rcases Nat.lt_or_ge b.natAbs 2 with h5 | h5
      · omega
      · have h6 : 9223372036854775808 / b.natAbs ≤ 9223372036854775808 / 2 := Nat.div_le_div_left h5 (by decide)
        exact absurd (Nat.le_trans (Nat.le_of_eq h3.symm) h6) (by decide)
    have hbb : b = 1 ∨ b = -1 := by omega
    rcases hbb with rfl | rfl
    · rw [Int.tdiv_one] at h; omega
    · exact hm ⟨ha, rfl⟩
theorem tmod_rng {a b : Int} (b0 : -9223372036854775808 ≤ b) (b1 : b ≤ 9223372036854775807) (hb : b ≠ 0) : -9223372036854775808 ≤ a.tmod b ∧ a.tmod b ≤ 9223372036854775807 := by
  have h1 : (a.tmod b).natAbs < b.natAbs := by rw [Int.natAbs_tmod]; exact Nat.mod_lt _ (by omega)
  have h2 : b.natAbs ≤ 9223372036854775808 := by omega
  omega
set_option maxHeartbeats 8000000 in
set_option maxRecDepth 100000 in
theorem evalnumbers_walk (a b : Int) (w : World) (a0 : -9223372036854775808 ≤ a) (a1 : a ≤ 9223372036854775807) (b0 : -9223372036854775808 ≤ b) (b1 : b ≤ 9223372036854775807) (hE0 : EnvP w) :
    Calls Tryz.prog 3 #[.int .i64 a, .int .i64 b] w fun e w' => e = .returned (.bool true) ∧ Below w.heap.size w w' := by
  have HE := Lib.hid hE0
  by_cases hz : b = 0
  · subst hz
    have c7 := two_val (K := 1) (n := a) (s := []) (by rw [op_add, Int.add_zero]; exact nv_in a0 a1) (by decide) (by decide) a0 a1 (b := 0) b0 b1
    have c8 := two_val (K := 1) (n := a) (s := []) (by rw [op_sub, Int.sub_zero]; exact nv_in a0 a1) (by decide) (by decide) a0 a1 (b := 0) b0 b1
    have c8b := c8
    have c10 := two_val (K := 4) (n := 2) (s := []) (by rw [op_div, if_pos rfl]) (by decide) (by decide) a0 a1 (b := 0) b0 b1
    have c11 := two_val (K := 4) (n := 2) (s := []) (by rw [op_mod, if_pos rfl]) (by decide) (by decide) a0 a1 (b := 0) b0 b1
    go_enter Tryz.func3, Tryz.ntmps3
    go_wp2_with fail
    (with_reducible refine (c7 w hE0).mono ?_)
    rintro e w1 ⟨rfl, b1⟩
    have s1 := At3.new w1 1 a ⟨#[]⟩
    have hba := below_alloc w1 (.cells #[.int .i64 1, .int .i64 a, .string ⟨#[]⟩] 23)
    have B1 := Lib.hid (below_to b1 hba)
    have AS := Lib.hid s1
    clear b1 hba s1
    go_wp2_with fail
    (with_reducible refine (c8 (w1.alloc (.cells #[.int .i64 1, .int .i64 a, .string ⟨#[]⟩] 23)) (HE.out.later B1.out)).mono ?_)
    rintro e w2 ⟨rfl, b2⟩
    have s2 := At3.new w2 1 a ⟨#[]⟩
    have hba := below_alloc w2 (.cells #[.int .i64 1, .int .i64 a, .string ⟨#[]⟩] 23)
    have b12 := below_to b2 hba
    have B2 := Lib.hid (below_to B1.out b12)
    have AS2 := Lib.hid (AS.out.later b12)
    have AD2 := Lib.hid s2
    obtain ⟨-, x0, x1, x2⟩ := AS2.out
    obtain ⟨-, y0, y1, y2⟩ := s2
    clear b2 hba b12 AS
    have nb := same_no 1 a ⟨#[]⟩
    have hne : (a != a) = false := by simp
    go_wp2_with fail
    (with_reducible refine (c8b (w2.alloc (.cells #[.int .i64 1, .int .i64 a, .string ⟨#[]⟩] 23)) (HE.out.later B2.out)).mono ?_)
    rintro e w3 ⟨rfl, b3⟩
    have B3 := Lib.hid (below_to B2.out b3)
    have AD3 := Lib.hid (AD2.out.later b3)
    obtain ⟨-, y0, y1, y2⟩ := AD3.out
    clear b3 x0 x1 x2 AD2
    go_wp2_with fail
    (with_reducible refine (c10 w3 (HE.out.later B3.out)).mono ?_)
    rintro e w4 ⟨rfl, b4⟩
    have s4 := At3.new w4 4 2 ⟨#[]⟩
    have hba := below_alloc w4 (.cells #[.int .i64 4, .int .i64 2, .string ⟨#[]⟩] 23)
    have B4 := Lib.hid (below_to B3.out (below_to b4 hba))
    have AQ4 := Lib.hid s4
    clear b4 hba s4 y0 y1 y2 nb
    go_wp2_with fail
    (with_reducible refine (c11 (w4.alloc (.cells #[.int .i64 4, .int .i64 2, .string ⟨#[]⟩] 23)) (HE.out.later B4.out)).mono ?_)
    rintro e w5 ⟨rfl, b5⟩
    have s5 := At3.new w5 4 2 ⟨#[]⟩
    have hba := below_alloc w5 (.cells #[.int .i64 4, .int .i64 2, .string ⟨#[]⟩] 23)
    have b45 := below_to b5 hba
    have B5 := Lib.hid (below_to B4.out b45)
    have hE5 := HE.out.later B5.out
    have AQ5 := AQ4.out.later b45
    have AM5 := s5
    obtain ⟨-, p0, p1, p2⟩ := AQ5
    obtain ⟨-, r0, r1, r2⟩ := AM5
    have ye := same_yes 4 2 ⟨#[]⟩
    have caw := evawake_any _ hE5
    clear b5 hba b45 s5
    go_wp2_with fail
    (with_reducible refine caw.mono ?_)
    rintro e w6 ⟨rfl, b6⟩
    have B6 := Lib.hid (below_to B5.out b6)
    clear b6 caw
    go_wp2_with fail
    go_ret
    exact ⟨rfl, B6.out⟩
  by_cases hm : a = -9223372036854775808 ∧ b = -1
  · obtain ⟨rfl, rfl⟩ := hm
    have c7 := two_val (K := 4) (n := 1) (s := []) (by rw [op_add]; exact nv_out (by decide)) (by decide) (by decide) a0 a1 b0 b1
    have c8 := two_val (K := 1) (n := -9223372036854775807) (s := []) (by rw [op_sub]; exact nv_in (by decide) (by decide)) (by decide) (by decide) a0 a1 b0 b1
    have c10 := two_val (K := 4) (n := 1) (s := []) (by rw [op_div, if_neg (by decide)]; exact nv_out (by decide)) (by decide) (by decide) a0 a1 b0 b1
    have c11 := two_val (K := 1) (n := 0) (s := []) (by rw [op_mod, if_neg (by decide)]; exact nv_in (by decide) (by decide)) (by decide) (by decide) a0 a1 b0 b1
    go_enter Tryz.func3, Tryz.ntmps3
    go_wp2_with fail
    (with_reducible refine (c7 w hE0).mono ?_)
    rintro e w1 ⟨rfl, b1⟩
    have s1 := At3.new w1 4 1 ⟨#[]⟩
    have hba := below_alloc w1 (.cells #[.int .i64 4, .int .i64 1, .string ⟨#[]⟩] 23)
    have B1 := Lib.hid (below_to b1 hba)
    have AS := Lib.hid s1
    clear b1 hba s1
    go_wp2_with fail
    (with_reducible refine (c8 (w1.alloc (.cells #[.int .i64 4, .int .i64 1, .string ⟨#[]⟩] 23)) (HE.out.later B1.out)).mono ?_)
    rintro e w2 ⟨rfl, b2⟩
    have s2 := At3.new w2 1 (-9223372036854775807) ⟨#[]⟩
    have hba := below_alloc w2 (.cells #[.int .i64 1, .int .i64 (-9223372036854775807), .string ⟨#[]⟩] 23)
    have b12 := below_to b2 hba
    have B2 := Lib.hid (below_to B1.out b12)
    have AS2 := Lib.hid (AS.out.later b12)
    have AD2 := Lib.hid s2
    obtain ⟨-, x0, x1, x2⟩ := AS2.out
    obtain ⟨-, y0, y1, y2⟩ := s2
    clear b2 hba b12 AS
    have nb := same_no 4 1 ⟨#[]⟩
    have B3 := B2
    go_wp2_with fail
    (with_reducible refine (c10 (w2.alloc (.cells #[.int .i64 1, .int .i64 (-9223372036854775807), .string ⟨#[]⟩] 23)) (HE.out.later B3.out)).mono ?_)
    rintro e w4 ⟨rfl, b4⟩
    have s4 := At3.new w4 4 1 ⟨#[]⟩
    have hba := below_alloc w4 (.cells #[.int .i64 4, .int .i64 1, .string ⟨#[]⟩] 23)
    have B4 := Lib.hid (below_to B3.out (below_to b4 hba))
    have AQ4 := Lib.hid s4
    clear b4 hba s4 y0 y1 y2 nb
    go_wp2_with fail
    (with_reducible refine (c11 (w4.alloc (.cells #[.int .i64 4, .int .i64 1, .string ⟨#[]⟩] 23)) (HE.out.later B4.out)).mono ?_)
    rintro e w5 ⟨rfl, b5⟩
    have s5 := At3.new w5 1 0 ⟨#[]⟩
    have hba := below_alloc w5 (.cells #[.int .i64 1, .int .i64 0, .string ⟨#[]⟩] 23)
    have b45 := below_to b5 hba
    have B5 := Lib.hid (below_to B4.out b45)
    have hE5 := HE.out.later B5.out
    have AQ5 := AQ4.out.later b45
    have AM5 := s5
    obtain ⟨-, p0, p1, p2⟩ := AQ5
    obtain ⟨-, r0, r1, r2⟩ := AM5
    have ye := same_yes 4 1 ⟨#[]⟩
    have ye2 := same_yes 1 0 ⟨#[]⟩
    have caw := evawake_any _ hE5
    clear b5 hba b45 s5
    go_wp2_with fail
    (with_reducible refine caw.mono ?_)
    rintro e w6 ⟨rfl, b6⟩
    have B6 := Lib.hid (below_to B5.out b6)
    clear b6 caw
    go_wp2_with fail
    go_ret
    exact ⟨rfl, B6.out⟩
  have hq := tdiv_rng a0 a1 hz hm
  have hmr := tmod_rng (a := a) b0 b1 hz
  obtain ⟨Q, hQ⟩ : ∃ Q, a.tdiv b = Q := ⟨_, rfl⟩
  obtain ⟨M, hM⟩ : ∃ M, a.tmod b = M := ⟨_, rfl⟩
  rw [hQ] at hq
  rw [hM] at hmr
  obtain ⟨q0', q1'⟩ := hq
  obtain ⟨m0', m1'⟩ := hmr
  have c10 := two_val (K := 1) (n := Q) (s := []) (by rw [op_div, if_neg hz, hQ]; exact nv_in q0' q1') (by decide) (by decide) a0 a1 b0 b1
  have c11 := two_val (K := 1) (n := M) (s := []) (by rw [op_mod, if_neg hz, hM]; exact nv_in m0' m1') (by decide) (by decide) a0 a1 b0 b1
  obtain ⟨z14, hz14⟩ : ∃ z : Int, z = if decide (a < b) then 1 else 0 := ⟨_, rfl⟩
  obtain ⟨z15, hz15⟩ : ∃ z : Int, z = if decide (a ≤ b) then 1 else 0 := ⟨_, rfl⟩
  obtain ⟨z12, hz12⟩ : ∃ z : Int, z = if (a == b) then 1 else 0 := ⟨_, rfl⟩
  obtain ⟨z13, hz13⟩ : ∃ z : Int, z = if (a != b) then 1 else 0 := ⟨_, rfl⟩
  have c14 := two_val (op := 14) (K := 2) (n := z14) (s := []) (by rw [op_cmp (by decide) (by decide), hz14]; rfl) (by decide) (by decide) a0 a1 b0 b1
  have c15 := two_val (op := 15) (K := 2) (n := z15) (s := []) (by
    rw [op_cmp (by decide) (by decide), hz15]
    have : (decide (a < b) || decide (a = b)) = decide (a ≤ b) := by
      rcases Int.lt_trichotomy a b with h | h | h
      · rw [decide_eq_true h, decide_eq_true (by omega : a ≤ b)]; rfl
      · rw [decide_eq_true h, decide_eq_true (by omega : a ≤ b), Bool.or_true]
      · rw [decide_eq_false (by omega : ¬ a < b), decide_eq_false (by omega : ¬ a = b), decide_eq_false (by omega : ¬ a ≤ b)]; rfl
    show truV (decide (a < b) || decide (a = b)) = _
    rw [this]
    rfl) (by decide) (by decide) a0 a1 b0 b1
  have c12 := two_val (op := 12) (K := 2) (n := z12) (s := []) (by rw [op_cmp (by decide) (by decide), hz12]; rfl) (by decide) (by decide) a0 a1 b0 b1
  have c13 := two_val (op := 13) (K := 2) (n := z13) (s := []) (by rw [op_cmp (by decide) (by decide), hz13]; rfl) (by decide) (by decide) a0 a1 b0 b1
  have t14 := tru_val _ z14 hz14
  have t15 := tru_val _ z15 hz15
  have t12 := tru_val _ z12 hz12
  have t13 := tru_val _ z13 hz13
  clear hz12 hz13 hz14 hz15
  have hbz : (b == 0) = false := beq_eq_false_iff_ne.2 hz
  have hmz : (a == -9223372036854775808) = false ∨ (a == -9223372036854775808) = true ∧ (b == -1) = false := by
    by_cases h : a = -9223372036854775808
    · exact .inr ⟨by simpa using h, beq_eq_false_iff_ne.2 fun e => hm ⟨h, e⟩⟩
    · exact .inl (beq_eq_false_iff_ne.2 h)
  by_cases hs : -9223372036854775808 ≤ a + b ∧ a + b ≤ 9223372036854775807
  · obtain ⟨hs0, hs1⟩ := hs
    have c7 := two_val (K := 1) (n := a + b) (s := []) (by rw [op_add]; exact nv_in hs0 hs1) (by decide) (by decide) a0 a1 b0 b1
    have c8b := two_val (op := 8) (a := a + b) (K := 1) (n := a) (s := []) (by rw [op_sub, show a + b - b = a by omega]; exact nv_in a0 a1) (by decide) (by decide) hs0 hs1 b0 b1
    by_cases hd : -9223372036854775808 ≤ a - b ∧ a - b ≤ 9223372036854775807
    · obtain ⟨hd0, hd1⟩ := hd
      have c8 := two_val (K := 1) (n := a - b) (s := []) (by rw [op_sub]; exact nv_in hd0 hd1) (by decide) (by decide) a0 a1 b0 b1
      have hdd : (a - b != a - b) = false := by simp
      rcases hmz with hmz | ⟨hmz, hmz2⟩
      all_goals
        go_enter Tryz.func3, Tryz.ntmps3
        go_wp2_with fail
        (with_reducible refine (c7 w hE0).mono ?_)
        rintro e w1 ⟨rfl, b1⟩
        have s1 := At3.new w1 1 (a + b) ⟨#[]⟩
        have hba := below_alloc w1 (.cells #[.int .i64 1, .int .i64 (a + b), .string ⟨#[]⟩] 23)
        have B1 := Lib.hid (below_to b1 hba)
        have AS := Lib.hid s1
        clear b1 hba s1
        go_wp2_with fail
        (with_reducible refine (c8 (w1.alloc (.cells #[.int .i64 1, .int .i64 (a + b), .string ⟨#[]⟩] 23)) (HE.out.later B1.out)).mono ?_)
        rintro e w2 ⟨rfl, b2⟩
        have s2 := At3.new w2 1 (a - b) ⟨#[]⟩
        have hba := below_alloc w2 (.cells #[.int .i64 1, .int .i64 (a - b), .string ⟨#[]⟩] 23)
        have b12 := below_to b2 hba
        have B2 := Lib.hid (below_to B1.out b12)
        have AS2 := Lib.hid (AS.out.later b12)
        have AD2 := Lib.hid s2
        obtain ⟨-, x0, x1, x2⟩ := AS2.out
        obtain ⟨-, y0, y1, y2⟩ := s2
        clear b2 hba b12 AS
        have nb := same_no 1 a ⟨#[]⟩
        have hne : (a + b != a + b) = false := by simp
        go_wp2_with fail
        (with_reducible refine (c8b (w2.alloc (.cells #[.int .i64 1, .int .i64 (a - b), .string ⟨#[]⟩] 23)) (HE.out.later B2.out)).mono ?_)
        rintro e w3 ⟨rfl, b3⟩
        have B3 := Lib.hid (below_to B2.out b3)
        have AD3 := Lib.hid (AD2.out.later b3)
        obtain ⟨-, y0, y1, y2⟩ := AD3.out
        clear b3 x0 x1 x2 AD2
        go_wp2_with fail
        (with_reducible refine (c10 w3 (HE.out.later B3.out)).mono ?_)
        rintro e w4 ⟨rfl, b4⟩
        have s4 := At3.new w4 1 Q ⟨#[]⟩
        have hba := below_alloc w4 (.cells #[.int .i64 1, .int .i64 Q, .string ⟨#[]⟩] 23)
        have B4 := Lib.hid (below_to B3.out (below_to b4 hba))
        have AQ4 := Lib.hid s4
        clear b4 hba s4 y0 y1 y2 nb
        go_wp2_with fail
        (with_reducible refine (c11 (w4.alloc (.cells #[.int .i64 1, .int .i64 Q, .string ⟨#[]⟩] 23)) (HE.out.later B4.out)).mono ?_)
        rintro e w5 ⟨rfl, b5⟩
        have s5 := At3.new w5 1 M ⟨#[]⟩
        have hba := below_alloc w5 (.cells #[.int .i64 1, .int .i64 M, .string ⟨#[]⟩] 23)
        have b45 := below_to b5 hba
        have B5 := Lib.hid (below_to B4.out b45)
        have hE5 := HE.out.later B5.out
        have AQ5 := AQ4.out.later b45
        have AM5 := s5
        have hAQ := AQ4.out.later b45
        have hAM := s5
        obtain ⟨-, p0, p1, p2⟩ := AQ5
        obtain ⟨-, r0, r1, r2⟩ := AM5
        clear b5 hba b45
        go_wp2_with fail
        skip
        generalize hW5 : (w5.alloc (.cells #[.int .i64 1, .int .i64 M, .string ⟨#[]⟩] 23)) = W5 at *
        have AQ := Lib.hid hAQ
        have AM := Lib.hid hAM
        clear p0 p1 p2 r0 r1 r2 hW5 hAQ hAM s5 hE5
        refine wp_region_held_drew (S := fun w' => Below W5.heap.size W5 w') (by kernel_rfl) ((Below.refl _ _).drew) (fun hHeld => ?_)
        refine held_take (i := 0) (v := ?_) rfl (by kernel_rfl) (by kernel_rfl) (by kernel_rfl) (fun _ _ _ h => h) (by rfl) hHeld ?_ ?_
        rotate_left
        · intro wz hSz; obtain ⟨-, q0, q1, q2⟩ := AQ.out.later hSz; go_simp; try with_reducible rfl
        simp only [Act.put, List.setIfInBounds_toArray, List.set_cons_zero, List.set_cons_succ]
        refine held_take (i := 1) (v := ?_) rfl (by kernel_rfl) (by kernel_rfl) (by kernel_rfl) (fun _ _ _ h => h) (by rfl) hHeld ?_ ?_
        rotate_left
        · intro wz hSz; go_simp; try with_reducible rfl
        simp only [Act.put, List.setIfInBounds_toArray, List.set_cons_zero, List.set_cons_succ]
        refine held_take (i := 2) (v := ?_) rfl (by kernel_rfl) (by kernel_rfl) (by kernel_rfl) (fun _ _ _ h => h) (by rfl) hHeld ?_ ?_
        rotate_left
        · intro wz hSz; go_simp; try with_reducible rfl
        simp only [Act.put, List.setIfInBounds_toArray, List.set_cons_zero, List.set_cons_succ]
        refine held_take (i := 3) (v := .int .i64 Q) rfl (by kernel_rfl) (by kernel_rfl) (by kernel_rfl) (fun _ _ _ h => h) (by rfl) hHeld ?_ ?_
        · intro wz hSz; (go_simp; first | done | rfl | exact i64_id ⟨q0', q1'⟩)
        simp only [Act.put, List.setIfInBounds_toArray, List.set_cons_zero, List.set_cons_succ]
        refine held_take (i := 4) (v := ?_) rfl (by kernel_rfl) (by kernel_rfl) (by kernel_rfl) (fun _ _ _ h => h) (by rfl) hHeld ?_ ?_
        rotate_left
        · intro wz hSz; go_simp; try with_reducible rfl
        simp only [Act.put, List.setIfInBounds_toArray, List.set_cons_zero, List.set_cons_succ]
        refine held_take (i := 5) (v := .bool true) rfl (by kernel_rfl) (by kernel_rfl) (by kernel_rfl) (fun _ _ _ h => h) (by rfl) hHeld ?_ ?_
        · intro wz hSz; (have ye := same_yes 1 Q ⟨#[]⟩ wz; go_simp; first | done | rfl | exact ye)
        simp only [Act.put, List.setIfInBounds_toArray, List.set_cons_zero, List.set_cons_succ]
        refine held_take (i := 6) (v := ?_) rfl (by kernel_rfl) (by kernel_rfl) (by kernel_rfl) (fun _ _ _ h => h) (by rfl) hHeld ?_ ?_
        rotate_left
        · intro wz hSz; go_simp; try with_reducible rfl
        simp only [Act.put, List.setIfInBounds_toArray, List.set_cons_zero, List.set_cons_succ]
        refine held_take (i := 7) (v := ?_) rfl (by kernel_rfl) (by kernel_rfl) (by kernel_rfl) (fun _ _ _ h => h) (by rfl) hHeld ?_ ?_
        rotate_left
        · intro wz hSz; obtain ⟨-, q0, q1, q2⟩ := AM.out.later hSz; go_simp; try with_reducible rfl
        simp only [Act.put, List.setIfInBounds_toArray, List.set_cons_zero, List.set_cons_succ]
        refine held_take (i := 8) (v := ?_) rfl (by kernel_rfl) (by kernel_rfl) (by kernel_rfl) (fun _ _ _ h => h) (by rfl) hHeld ?_ ?_
        rotate_left
        · intro wz hSz; go_simp; try with_reducible rfl
        simp only [Act.put, List.setIfInBounds_toArray, List.set_cons_zero, List.set_cons_succ]
        refine held_take (i := 9) (v := ?_) rfl (by kernel_rfl) (by kernel_rfl) (by kernel_rfl) (fun _ _ _ h => h) (by rfl) hHeld ?_ ?_
        rotate_left
        · intro wz hSz; go_simp; try with_reducible rfl
        simp only [Act.put, List.setIfInBounds_toArray, List.set_cons_zero, List.set_cons_succ]
        refine held_take (i := 10) (v := .int .i64 M) rfl (by kernel_rfl) (by kernel_rfl) (by kernel_rfl) (fun _ _ _ h => h) (by rfl) hHeld ?_ ?_
        · intro wz hSz; (go_simp; first | done | rfl | simp [*] | exact i64_id ⟨m0', m1'⟩)
        simp only [Act.put, List.setIfInBounds_toArray, List.set_cons_zero, List.set_cons_succ]
        refine held_take (i := 11) (v := ?_) rfl (by kernel_rfl) (by kernel_rfl) (by kernel_rfl) (fun _ _ _ h => h) (by rfl) hHeld ?_ ?_
        rotate_left
        · intro wz hSz; go_simp; try with_reducible rfl
        simp only [Act.put, List.setIfInBounds_toArray, List.set_cons_zero, List.set_cons_succ]
        refine held_take (i := 12) (v := .bool true) rfl (by kernel_rfl) (by kernel_rfl) (by kernel_rfl) (fun _ _ _ h => h) (by rfl) hHeld ?_ ?_
        · intro wz hSz; (have ye := same_yes 1 M ⟨#[]⟩ wz; go_simp; first | done | rfl | exact ye)
        simp only [Act.put, List.setIfInBounds_toArray, List.set_cons_zero, List.set_cons_succ]
        refine held_take (i := 13) (v := ?_) rfl (by kernel_rfl) (by kernel_rfl) (by kernel_rfl) (fun _ _ _ h => h) (by rfl) hHeld ?_ ?_
        rotate_left
        · intro wz hSz; go_simp; try with_reducible rfl
        simp only [Act.put, List.setIfInBounds_toArray, List.set_cons_zero, List.set_cons_succ]
        refine held_take (i := 14) (v := ?_) rfl (by kernel_rfl) (by kernel_rfl) (by kernel_rfl) (fun _ _ _ h => h) (by rfl) hHeld ?_ ?_
        rotate_left
        · intro wz hSz; go_simp; try with_reducible rfl
        simp only [Act.put, List.setIfInBounds_toArray, List.set_cons_zero, List.set_cons_succ]
        refine held_take (i := 15) (v := ?_) rfl (by kernel_rfl) (by kernel_rfl) (by kernel_rfl) (fun _ _ _ h => h) (by rfl) hHeld ?_ ?_
        rotate_left
        · intro wz hSz; go_simp; try with_reducible rfl
        simp only [Act.put, List.setIfInBounds_toArray, List.set_cons_zero, List.set_cons_succ]
        refine held_take (i := 16) (v := ?_) rfl (by kernel_rfl) (by kernel_rfl) (by kernel_rfl) (fun _ _ _ h => h) (by rfl) hHeld ?_ ?_
        rotate_left
        · intro wz hSz; go_simp; try with_reducible rfl
        simp only [Act.put, List.setIfInBounds_toArray, List.set_cons_zero, List.set_cons_succ]
        refine held_take (i := 18) (v := ?_) rfl (by kernel_rfl) (by kernel_rfl) (by kernel_rfl) (fun _ _ _ h => h) (by rfl) hHeld ?_ ?_
        rotate_left
        · intro wz hSz; go_simp; try with_reducible rfl
        simp only [Act.put, List.setIfInBounds_toArray, List.set_cons_zero, List.set_cons_succ]
        refine held_take (i := 19) (v := ?_) rfl (by kernel_rfl) (by kernel_rfl) (by kernel_rfl) (fun _ _ _ h => h) (by rfl) hHeld ?_ ?_
        rotate_left
        · intro wz hSz; go_simp; try with_reducible rfl
        simp only [Act.put, List.setIfInBounds_toArray, List.set_cons_zero, List.set_cons_succ]
        refine held_take (i := 20) (v := ?_) rfl (by kernel_rfl) (by kernel_rfl) (by kernel_rfl) (fun _ _ _ h => h) (by rfl) hHeld ?_ ?_
        rotate_left
        · intro wz hSz; go_simp; try with_reducible rfl
        simp only [Act.put, List.setIfInBounds_toArray, List.set_cons_zero, List.set_cons_succ]
        refine held_call (i := 17) (by kernel_rfl) rfl (by rfl) (by go_simp; try with_reducible rfl) (c14 _ (HE.out.later (below_to B5.out hHeld))) ?_
        rintro e wy ⟨rfl, hy⟩
        refine ⟨_, rfl, below_to hHeld hy, ?_⟩
        replace hHeld := below_to hHeld hy
        simp only [Act.put, List.setIfInBounds_toArray, List.set_cons_zero, List.set_cons_succ]
        refine held_call (i := 21) (by kernel_rfl) rfl (by rfl) (by go_simp; try with_reducible rfl) (t14 _) ?_
        rintro e wy ⟨rfl, hy⟩
        refine ⟨_, rfl, below_to hHeld hy, ?_⟩
        replace hHeld := below_to hHeld hy
        simp only [Act.put, List.setIfInBounds_toArray, List.set_cons_zero, List.set_cons_succ]
        refine held_take (i := 22) (v := .bool true) rfl (by kernel_rfl) (by kernel_rfl) (by kernel_rfl) (fun _ _ _ h => h) (by rfl) hHeld ?_ ?_
        · intro wz hSz; (have ye := same_yes 2 z14 ⟨#[]⟩ wz; go_simp; first | done | rfl | exact ye)
        simp only [Act.put, List.setIfInBounds_toArray, List.set_cons_zero, List.set_cons_succ]
        refine held_take (i := 23) (v := ?_) rfl (by kernel_rfl) (by kernel_rfl) (by kernel_rfl) (fun _ _ _ h => h) (by rfl) hHeld ?_ ?_
        rotate_left
        · intro wz hSz; go_simp; try with_reducible rfl
        simp only [Act.put, List.setIfInBounds_toArray, List.set_cons_zero, List.set_cons_succ]
        refine held_take (i := 24) (v := ?_) rfl (by kernel_rfl) (by kernel_rfl) (by kernel_rfl) (fun _ _ _ h => h) (by rfl) hHeld ?_ ?_
        rotate_left
        · intro wz hSz; go_simp; try with_reducible rfl
        simp only [Act.put, List.setIfInBounds_toArray, List.set_cons_zero, List.set_cons_succ]
        refine held_take (i := 25) (v := ?_) rfl (by kernel_rfl) (by kernel_rfl) (by kernel_rfl) (fun _ _ _ h => h) (by rfl) hHeld ?_ ?_
        rotate_left
        · intro wz hSz; go_simp; try with_reducible rfl
        simp only [Act.put, List.setIfInBounds_toArray, List.set_cons_zero, List.set_cons_succ]
        refine held_take (i := 26) (v := ?_) rfl (by kernel_rfl) (by kernel_rfl) (by kernel_rfl) (fun _ _ _ h => h) (by rfl) hHeld ?_ ?_
        rotate_left
        · intro wz hSz; go_simp; try with_reducible rfl
        simp only [Act.put, List.setIfInBounds_toArray, List.set_cons_zero, List.set_cons_succ]
        refine held_take (i := 28) (v := ?_) rfl (by kernel_rfl) (by kernel_rfl) (by kernel_rfl) (fun _ _ _ h => h) (by rfl) hHeld ?_ ?_
        rotate_left
        · intro wz hSz; go_simp; try with_reducible rfl
        simp only [Act.put, List.setIfInBounds_toArray, List.set_cons_zero, List.set_cons_succ]
        refine held_take (i := 29) (v := ?_) rfl (by kernel_rfl) (by kernel_rfl) (by kernel_rfl) (fun _ _ _ h => h) (by rfl) hHeld ?_ ?_
        rotate_left
        · intro wz hSz; go_simp; try with_reducible rfl
        simp only [Act.put, List.setIfInBounds_toArray, List.set_cons_zero, List.set_cons_succ]
        refine held_take (i := 30) (v := ?_) rfl (by kernel_rfl) (by kernel_rfl) (by kernel_rfl) (fun _ _ _ h => h) (by rfl) hHeld ?_ ?_
        rotate_left
        · intro wz hSz; go_simp; try with_reducible rfl
        simp only [Act.put, List.setIfInBounds_toArray, List.set_cons_zero, List.set_cons_succ]
        refine held_call (i := 27) (by kernel_rfl) rfl (by rfl) (by go_simp; try with_reducible rfl) (c15 _ (HE.out.later (below_to B5.out hHeld))) ?_
        rintro e wy ⟨rfl, hy⟩
        refine ⟨_, rfl, below_to hHeld hy, ?_⟩
        replace hHeld := below_to hHeld hy
        simp only [Act.put, List.setIfInBounds_toArray, List.set_cons_zero, List.set_cons_succ]
        refine held_call (i := 31) (by kernel_rfl) rfl (by rfl) (by go_simp; try with_reducible rfl) (t15 _) ?_
        rintro e wy ⟨rfl, hy⟩
        refine ⟨_, rfl, below_to hHeld hy, ?_⟩
        replace hHeld := below_to hHeld hy
        simp only [Act.put, List.setIfInBounds_toArray, List.set_cons_zero, List.set_cons_succ]
        refine held_take (i := 32) (v := .bool true) rfl (by kernel_rfl) (by kernel_rfl) (by kernel_rfl) (fun _ _ _ h => h) (by rfl) hHeld ?_ ?_
        · intro wz hSz; (have ye := same_yes 2 z15 ⟨#[]⟩ wz; go_simp; first | done | rfl | exact ye)
        simp only [Act.put, List.setIfInBounds_toArray, List.set_cons_zero, List.set_cons_succ]
        refine held_take (i := 33) (v := ?_) rfl (by kernel_rfl) (by kernel_rfl) (by kernel_rfl) (fun _ _ _ h => h) (by rfl) hHeld ?_ ?_
        rotate_left
        · intro wz hSz; go_simp; try with_reducible rfl
        simp only [Act.put, List.setIfInBounds_toArray, List.set_cons_zero, List.set_cons_succ]
        refine held_take (i := 34) (v := ?_) rfl (by kernel_rfl) (by kernel_rfl) (by kernel_rfl) (fun _ _ _ h => h) (by rfl) hHeld ?_ ?_
        rotate_left
        · intro wz hSz; go_simp; try with_reducible rfl
        simp only [Act.put, List.setIfInBounds_toArray, List.set_cons_zero, List.set_cons_succ]
        refine held_take (i := 35) (v := ?_) rfl (by kernel_rfl) (by kernel_rfl) (by kernel_rfl) (fun _ _ _ h => h) (by rfl) hHeld ?_ ?_
        rotate_left
        · intro wz hSz; go_simp; try with_reducible rfl
        simp only [Act.put, List.setIfInBounds_toArray, List.set_cons_zero, List.set_cons_succ]
        refine held_take (i := 36) (v := ?_) rfl (by kernel_rfl) (by kernel_rfl) (by kernel_rfl) (fun _ _ _ h => h) (by rfl) hHeld ?_ ?_
        rotate_left
        · intro wz hSz; go_simp; try with_reducible rfl
        simp only [Act.put, List.setIfInBounds_toArray, List.set_cons_zero, List.set_cons_succ]
        refine held_take (i := 38) (v := ?_) rfl (by kernel_rfl) (by kernel_rfl) (by kernel_rfl) (fun _ _ _ h => h) (by rfl) hHeld ?_ ?_
        rotate_left
        · intro wz hSz; go_simp; try with_reducible rfl
        simp only [Act.put, List.setIfInBounds_toArray, List.set_cons_zero, List.set_cons_succ]
        refine held_take (i := 39) (v := ?_) rfl (by kernel_rfl) (by kernel_rfl) (by kernel_rfl) (fun _ _ _ h => h) (by rfl) hHeld ?_ ?_
        rotate_left
        · intro wz hSz; go_simp; try with_reducible rfl
        simp only [Act.put, List.setIfInBounds_toArray, List.set_cons_zero, List.set_cons_succ]
        refine held_take (i := 40) (v := ?_) rfl (by kernel_rfl) (by kernel_rfl) (by kernel_rfl) (fun _ _ _ h => h) (by rfl) hHeld ?_ ?_
        rotate_left
        · intro wz hSz; go_simp; try with_reducible rfl
        simp only [Act.put, List.setIfInBounds_toArray, List.set_cons_zero, List.set_cons_succ]
        refine held_call (i := 37) (by kernel_rfl) rfl (by rfl) (by go_simp; try with_reducible rfl) (c12 _ (HE.out.later (below_to B5.out hHeld))) ?_
        rintro e wy ⟨rfl, hy⟩
        refine ⟨_, rfl, below_to hHeld hy, ?_⟩
        replace hHeld := below_to hHeld hy
        simp only [Act.put, List.setIfInBounds_toArray, List.set_cons_zero, List.set_cons_succ]
        refine held_call (i := 41) (by kernel_rfl) rfl (by rfl) (by go_simp; try with_reducible rfl) (t12 _) ?_
        rintro e wy ⟨rfl, hy⟩
        refine ⟨_, rfl, below_to hHeld hy, ?_⟩
        replace hHeld := below_to hHeld hy
        simp only [Act.put, List.setIfInBounds_toArray, List.set_cons_zero, List.set_cons_succ]
        refine held_take (i := 42) (v := .bool true) rfl (by kernel_rfl) (by kernel_rfl) (by kernel_rfl) (fun _ _ _ h => h) (by rfl) hHeld ?_ ?_
        · intro wz hSz; (have ye := same_yes 2 z12 ⟨#[]⟩ wz; go_simp; first | done | rfl | exact ye)
        simp only [Act.put, List.setIfInBounds_toArray, List.set_cons_zero, List.set_cons_succ]
        refine held_take (i := 43) (v := ?_) rfl (by kernel_rfl) (by kernel_rfl) (by kernel_rfl) (fun _ _ _ h => h) (by rfl) hHeld ?_ ?_
        rotate_left
        · intro wz hSz; go_simp; try with_reducible rfl
        simp only [Act.put, List.setIfInBounds_toArray, List.set_cons_zero, List.set_cons_succ]
        refine held_take (i := 44) (v := ?_) rfl (by kernel_rfl) (by kernel_rfl) (by kernel_rfl) (fun _ _ _ h => h) (by rfl) hHeld ?_ ?_
        rotate_left
        · intro wz hSz; go_simp; try with_reducible rfl
        simp only [Act.put, List.setIfInBounds_toArray, List.set_cons_zero, List.set_cons_succ]
        refine held_take (i := 45) (v := ?_) rfl (by kernel_rfl) (by kernel_rfl) (by kernel_rfl) (fun _ _ _ h => h) (by rfl) hHeld ?_ ?_
        rotate_left
        · intro wz hSz; go_simp; try with_reducible rfl
        simp only [Act.put, List.setIfInBounds_toArray, List.set_cons_zero, List.set_cons_succ]
        refine held_take (i := 46) (v := ?_) rfl (by kernel_rfl) (by kernel_rfl) (by kernel_rfl) (fun _ _ _ h => h) (by rfl) hHeld ?_ ?_
        rotate_left
        · intro wz hSz; go_simp; try with_reducible rfl
        simp only [Act.put, List.setIfInBounds_toArray, List.set_cons_zero, List.set_cons_succ]
        refine held_take (i := 48) (v := ?_) rfl (by kernel_rfl) (by kernel_rfl) (by kernel_rfl) (fun _ _ _ h => h) (by rfl) hHeld ?_ ?_
        rotate_left
        · intro wz hSz; go_simp; try with_reducible rfl
        simp only [Act.put, List.setIfInBounds_toArray, List.set_cons_zero, List.set_cons_succ]
        refine held_take (i := 49) (v := ?_) rfl (by kernel_rfl) (by kernel_rfl) (by kernel_rfl) (fun _ _ _ h => h) (by rfl) hHeld ?_ ?_
        rotate_left
        · intro wz hSz; go_simp; try with_reducible rfl
        simp only [Act.put, List.setIfInBounds_toArray, List.set_cons_zero, List.set_cons_succ]
        refine held_take (i := 50) (v := ?_) rfl (by kernel_rfl) (by kernel_rfl) (by kernel_rfl) (fun _ _ _ h => h) (by rfl) hHeld ?_ ?_
        rotate_left
        · intro wz hSz; go_simp; try with_reducible rfl
        simp only [Act.put, List.setIfInBounds_toArray, List.set_cons_zero, List.set_cons_succ]
        refine held_call (i := 47) (by kernel_rfl) rfl (by rfl) (by go_simp; try with_reducible rfl) (c13 _ (HE.out.later (below_to B5.out hHeld))) ?_
        rintro e wy ⟨rfl, hy⟩
        refine ⟨_, rfl, below_to hHeld hy, ?_⟩
        replace hHeld := below_to hHeld hy
        simp only [Act.put, List.setIfInBounds_toArray, List.set_cons_zero, List.set_cons_succ]
        refine held_call (i := 51) (by kernel_rfl) rfl (by rfl) (by go_simp; try with_reducible rfl) (t13 _) ?_
        rintro e wy ⟨rfl, hy⟩
        refine ⟨_, rfl, below_to hHeld hy, ?_⟩
        replace hHeld := below_to hHeld hy
        simp only [Act.put, List.setIfInBounds_toArray, List.set_cons_zero, List.set_cons_succ]
        refine held_take (i := 52) (v := .bool true) rfl (by kernel_rfl) (by kernel_rfl) (by kernel_rfl) (fun _ _ _ h => h) (by rfl) hHeld ?_ ?_
        · intro wz hSz; (have ye := same_yes 2 z13 ⟨#[]⟩ wz; go_simp; first | done | rfl | exact ye)
        simp only [Act.put, List.setIfInBounds_toArray, List.set_cons_zero, List.set_cons_succ]
        refine held_take (i := 53) (v := ?_) rfl (by kernel_rfl) (by kernel_rfl) (by kernel_rfl) (fun _ _ _ h => h) (by rfl) hHeld ?_ ?_
        rotate_left
        · intro wz hSz; go_simp; try with_reducible rfl
        simp only [Act.put, List.setIfInBounds_toArray, List.set_cons_zero, List.set_cons_succ]
        refine held_take (i := 54) (v := ?_) rfl (by kernel_rfl) (by kernel_rfl) (by kernel_rfl) (fun _ _ _ h => h) (by rfl) hHeld ?_ ?_
        rotate_left
        · intro wz hSz; go_simp; try with_reducible rfl
        simp only [Act.put, List.setIfInBounds_toArray, List.set_cons_zero, List.set_cons_succ]
        refine held_call (i := 55) (by kernel_rfl) rfl (by rfl) (by go_simp; try with_reducible rfl) (evawake_any _ (HE.out.later (below_to B5.out hHeld))) ?_
        rintro e wy ⟨rfl, hy⟩
        refine ⟨_, rfl, below_to hHeld hy, ?_⟩
        replace hHeld := below_to hHeld hy
        simp only [Act.put, List.setIfInBounds_toArray, List.set_cons_zero, List.set_cons_succ]
        refine held_take (i := 56) (v := ?_) rfl (by kernel_rfl) (by kernel_rfl) (by kernel_rfl) (fun _ _ _ h => h) (by rfl) hHeld ?_ ?_
        rotate_left
        · intro wz hSz; go_simp; try with_reducible rfl
        simp only [Act.put, List.setIfInBounds_toArray, List.set_cons_zero, List.set_cons_succ]
        refine held_take (i := 57) (v := ?_) rfl (by kernel_rfl) (by kernel_rfl) (by kernel_rfl) (fun _ _ _ h => h) (by rfl) hHeld ?_ ?_
        rotate_left
        · intro wz hSz; go_simp; try with_reducible rfl
        simp only [Act.put, List.setIfInBounds_toArray, List.set_cons_zero, List.set_cons_succ]
        refine wpAnyH_done (by kernel_rfl) ?_ _
        have HBF := Lib.hid (below_to B5.out hHeld)
        go_wp2_with fail
        go_ret
        exact ⟨rfl, HBF.out⟩
    · have c8 := two_val (K := 4) (n := 1) (s := []) (by rw [op_sub]; exact nv_out hd) (by decide) (by decide) a0 a1 b0 b1
      have hsd : (decide (a < 0) == decide (b < 0)) = false := by
        rcases Int.lt_or_le a 0 with h | h <;> rcases Int.lt_or_le b 0 with h' | h'
        · omega
        · rw [decide_eq_true h, decide_eq_false (by omega)]; rfl
        · rw [decide_eq_false (by omega), decide_eq_true h']; rfl
        · omega
      rcases hmz with hmz | ⟨hmz, hmz2⟩
      all_goals
        go_enter Tryz.func3, Tryz.ntmps3
        go_wp2_with fail
        (with_reducible refine (c7 w hE0).mono ?_)
        rintro e w1 ⟨rfl, b1⟩
        have s1 := At3.new w1 1 (a + b) ⟨#[]⟩
        have hba := below_alloc w1 (.cells #[.int .i64 1, .int .i64 (a + b), .string ⟨#[]⟩] 23)
        have B1 := Lib.hid (below_to b1 hba)
        have AS := Lib.hid s1
        clear b1 hba s1
        go_wp2_with fail
        (with_reducible refine (c8 (w1.alloc (.cells #[.int .i64 1, .int .i64 (a + b), .string ⟨#[]⟩] 23)) (HE.out.later B1.out)).mono ?_)
        rintro e w2 ⟨rfl, b2⟩
        have s2 := At3.new w2 4 1 ⟨#[]⟩
        have hba := below_alloc w2 (.cells #[.int .i64 4, .int .i64 1, .string ⟨#[]⟩] 23)
        have b12 := below_to b2 hba
        have B2 := Lib.hid (below_to B1.out b12)
        have AS2 := Lib.hid (AS.out.later b12)
        have AD2 := Lib.hid s2
        obtain ⟨-, x0, x1, x2⟩ := AS2.out
        obtain ⟨-, y0, y1, y2⟩ := s2
        clear b2 hba b12 AS
        have nb := same_no 1 a ⟨#[]⟩
        have hne : (a + b != a + b) = false := by simp
        go_wp2_with fail
        (with_reducible refine (c8b (w2.alloc (.cells #[.int .i64 4, .int .i64 1, .string ⟨#[]⟩] 23)) (HE.out.later B2.out)).mono ?_)
        rintro e w3 ⟨rfl, b3⟩
        have B3 := Lib.hid (below_to B2.out b3)
        have AD3 := Lib.hid (AD2.out.later b3)
        obtain ⟨-, y0, y1, y2⟩ := AD3.out
        clear b3 x0 x1 x2 AD2
        go_wp2_with fail
        (with_reducible refine (c10 w3 (HE.out.later B3.out)).mono ?_)
        rintro e w4 ⟨rfl, b4⟩
        have s4 := At3.new w4 1 Q ⟨#[]⟩
        have hba := below_alloc w4 (.cells #[.int .i64 1, .int .i64 Q, .string ⟨#[]⟩] 23)
        have B4 := Lib.hid (below_to B3.out (below_to b4 hba))
        have AQ4 := Lib.hid s4
        clear b4 hba s4 y0 y1 y2 nb
        go_wp2_with fail
        (with_reducible refine (c11 (w4.alloc (.cells #[.int .i64 1, .int .i64 Q, .string ⟨#[]⟩] 23)) (HE.out.later B4.out)).mono ?_)
        rintro e w5 ⟨rfl, b5⟩
        have s5 := At3.new w5 1 M ⟨#[]⟩
        have hba := below_alloc w5 (.cells #[.int .i64 1, .int .i64 M, .string ⟨#[]⟩] 23)
        have b45 := below_to b5 hba
        have B5 := Lib.hid (below_to B4.out b45)
        have hE5 := HE.out.later B5.out
        have AQ5 := AQ4.out.later b45
        have AM5 := s5
        have hAQ := AQ4.out.later b45
        have hAM := s5
        obtain ⟨-, p0, p1, p2⟩ := AQ5
        obtain ⟨-, r0, r1, r2⟩ := AM5
        clear b5 hba b45
        go_wp2_with fail
        skip
        generalize hW5 : (w5.alloc (.cells #[.int .i64 1, .int .i64 M, .string ⟨#[]⟩] 23)) = W5 at *
        have AQ := Lib.hid hAQ
        have AM := Lib.hid hAM
        clear p0 p1 p2 r0 r1 r2 hW5 hAQ hAM s5 hE5
        refine wp_region_held_drew (S := fun w' => Below W5.heap.size W5 w') (by kernel_rfl) ((Below.refl _ _).drew) (fun hHeld => ?_)
        refine held_take (i := 0) (v := ?_) rfl (by kernel_rfl) (by kernel_rfl) (by kernel_rfl) (fun _ _ _ h => h) (by rfl) hHeld ?_ ?_
        rotate_left
        · intro wz hSz; obtain ⟨-, q0, q1, q2⟩ := AQ.out.later hSz; go_simp; try with_reducible rfl
        simp only [Act.put, List.setIfInBounds_toArray, List.set_cons_zero, List.set_cons_succ]
        refine held_take (i := 1) (v := ?_) rfl (by kernel_rfl) (by kernel_rfl) (by kernel_rfl) (fun _ _ _ h => h) (by rfl) hHeld ?_ ?_
        rotate_left
        · intro wz hSz; go_simp; try with_reducible rfl
        simp only [Act.put, List.setIfInBounds_toArray, List.set_cons_zero, List.set_cons_succ]
        refine held_take (i := 2) (v := ?_) rfl (by kernel_rfl) (by kernel_rfl) (by kernel_rfl) (fun _ _ _ h => h) (by rfl) hHeld ?_ ?_
        rotate_left
        · intro wz hSz; go_simp; try with_reducible rfl
        simp only [Act.put, List.setIfInBounds_toArray, List.set_cons_zero, List.set_cons_succ]
        refine held_take (i := 3) (v := .int .i64 Q) rfl (by kernel_rfl) (by kernel_rfl) (by kernel_rfl) (fun _ _ _ h => h) (by rfl) hHeld ?_ ?_
        · intro wz hSz; (go_simp; first | done | rfl | exact i64_id ⟨q0', q1'⟩)
        simp only [Act.put, List.setIfInBounds_toArray, List.set_cons_zero, List.set_cons_succ]
        refine held_take (i := 4) (v := ?_) rfl (by kernel_rfl) (by kernel_rfl) (by kernel_rfl) (fun _ _ _ h => h) (by rfl) hHeld ?_ ?_
        rotate_left
        · intro wz hSz; go_simp; try with_reducible rfl
        simp only [Act.put, List.setIfInBounds_toArray, List.set_cons_zero, List.set_cons_succ]
        refine held_take (i := 5) (v := .bool true) rfl (by kernel_rfl) (by kernel_rfl) (by kernel_rfl) (fun _ _ _ h => h) (by rfl) hHeld ?_ ?_
        · intro wz hSz; (have ye := same_yes 1 Q ⟨#[]⟩ wz; go_simp; first | done | rfl | exact ye)
        simp only [Act.put, List.setIfInBounds_toArray, List.set_cons_zero, List.set_cons_succ]
        refine held_take (i := 6) (v := ?_) rfl (by kernel_rfl) (by kernel_rfl) (by kernel_rfl) (fun _ _ _ h => h) (by rfl) hHeld ?_ ?_
        rotate_left
        · intro wz hSz; go_simp; try with_reducible rfl
        simp only [Act.put, List.setIfInBounds_toArray, List.set_cons_zero, List.set_cons_succ]
        refine held_take (i := 7) (v := ?_) rfl (by kernel_rfl) (by kernel_rfl) (by kernel_rfl) (fun _ _ _ h => h) (by rfl) hHeld ?_ ?_
        rotate_left
        · intro wz hSz; obtain ⟨-, q0, q1, q2⟩ := AM.out.later hSz; go_simp; try with_reducible rfl
        simp only [Act.put, List.setIfInBounds_toArray, List.set_cons_zero, List.set_cons_succ]
        refine held_take (i := 8) (v := ?_) rfl (by kernel_rfl) (by kernel_rfl) (by kernel_rfl) (fun _ _ _ h => h) (by rfl) hHeld ?_ ?_
        rotate_left
        · intro wz hSz; go_simp; try with_reducible rfl
        simp only [Act.put, List.setIfInBounds_toArray, List.set_cons_zero, List.set_cons_succ]
        refine held_take (i := 9) (v := ?_) rfl (by kernel_rfl) (by kernel_rfl) (by kernel_rfl) (fun _ _ _ h => h) (by rfl) hHeld ?_ ?_
        rotate_left
        · intro wz hSz; go_simp; try with_reducible rfl
        simp only [Act.put, List.setIfInBounds_toArray, List.set_cons_zero, List.set_cons_succ]
        refine held_take (i := 10) (v := .int .i64 M) rfl (by kernel_rfl) (by kernel_rfl) (by kernel_rfl) (fun _ _ _ h => h) (by rfl) hHeld ?_ ?_
        · intro wz hSz; (go_simp; first | done | rfl | simp [*] | exact i64_id ⟨m0', m1'⟩)
        simp only [Act.put, List.setIfInBounds_toArray, List.set_cons_zero, List.set_cons_succ]
        refine held_take (i := 11) (v := ?_) rfl (by kernel_rfl) (by kernel_rfl) (by kernel_rfl) (fun _ _ _ h => h) (by rfl) hHeld ?_ ?_
        rotate_left
        · intro wz hSz; go_simp; try with_reducible rfl
        simp only [Act.put, List.setIfInBounds_toArray, List.set_cons_zero, List.set_cons_succ]
        refine held_take (i := 12) (v := .bool true) rfl (by kernel_rfl) (by kernel_rfl) (by kernel_rfl) (fun _ _ _ h => h) (by rfl) hHeld ?_ ?_
        · intro wz hSz; (have ye := same_yes 1 M ⟨#[]⟩ wz; go_simp; first | done | rfl | exact ye)
        simp only [Act.put, List.setIfInBounds_toArray, List.set_cons_zero, List.set_cons_succ]
        refine held_take (i := 13) (v := ?_) rfl (by kernel_rfl) (by kernel_rfl) (by kernel_rfl) (fun _ _ _ h => h) (by rfl) hHeld ?_ ?_
        rotate_left
        · intro wz hSz; go_simp; try with_reducible rfl
        simp only [Act.put, List.setIfInBounds_toArray, List.set_cons_zero, List.set_cons_succ]
        refine held_take (i := 14) (v := ?_) rfl (by kernel_rfl) (by kernel_rfl) (by kernel_rfl) (fun _ _ _ h => h) (by rfl) hHeld ?_ ?_
        rotate_left
        · intro wz hSz; go_simp; try with_reducible rfl
        simp only [Act.put, List.setIfInBounds_toArray, List.set_cons_zero, List.set_cons_succ]
        refine held_take (i := 15) (v := ?_) rfl (by kernel_rfl) (by kernel_rfl) (by kernel_rfl) (fun _ _ _ h => h) (by rfl) hHeld ?_ ?_
        rotate_left
        · intro wz hSz; go_simp; try with_reducible rfl
        simp only [Act.put, List.setIfInBounds_toArray, List.set_cons_zero, List.set_cons_succ]
        refine held_take (i := 16) (v := ?_) rfl (by kernel_rfl) (by kernel_rfl) (by kernel_rfl) (fun _ _ _ h => h) (by rfl) hHeld ?_ ?_
        rotate_left
        · intro wz hSz; go_simp; try with_reducible rfl
        simp only [Act.put, List.setIfInBounds_toArray, List.set_cons_zero, List.set_cons_succ]
        refine held_take (i := 18) (v := ?_) rfl (by kernel_rfl) (by kernel_rfl) (by kernel_rfl) (fun _ _ _ h => h) (by rfl) hHeld ?_ ?_
        rotate_left
        · intro wz hSz; go_simp; try with_reducible rfl
        simp only [Act.put, List.setIfInBounds_toArray, List.set_cons_zero, List.set_cons_succ]
        refine held_take (i := 19) (v := ?_) rfl (by kernel_rfl) (by kernel_rfl) (by kernel_rfl) (fun _ _ _ h => h) (by rfl) hHeld ?_ ?_
        rotate_left
        · intro wz hSz; go_simp; try with_reducible rfl
        simp only [Act.put, List.setIfInBounds_toArray, List.set_cons_zero, List.set_cons_succ]
        refine held_take (i := 20) (v := ?_) rfl (by kernel_rfl) (by kernel_rfl) (by kernel_rfl) (fun _ _ _ h => h) (by rfl) hHeld ?_ ?_
        rotate_left
        · intro wz hSz; go_simp; try with_reducible rfl
        simp only [Act.put, List.setIfInBounds_toArray, List.set_cons_zero, List.set_cons_succ]
        refine held_call (i := 17) (by kernel_rfl) rfl (by rfl) (by go_simp; try with_reducible rfl) (c14 _ (HE.out.later (below_to B5.out hHeld))) ?_
        rintro e wy ⟨rfl, hy⟩
        refine ⟨_, rfl, below_to hHeld hy, ?_⟩
        replace hHeld := below_to hHeld hy
        simp only [Act.put, List.setIfInBounds_toArray, List.set_cons_zero, List.set_cons_succ]
        refine held_call (i := 21) (by kernel_rfl) rfl (by rfl) (by go_simp; try with_reducible rfl) (t14 _) ?_
        rintro e wy ⟨rfl, hy⟩
        refine ⟨_, rfl, below_to hHeld hy, ?_⟩
        replace hHeld := below_to hHeld hy
        simp only [Act.put, List.setIfInBounds_toArray, List.set_cons_zero, List.set_cons_succ]
        refine held_take (i := 22) (v := .bool true) rfl (by kernel_rfl) (by kernel_rfl) (by kernel_rfl) (fun _ _ _ h => h) (by rfl) hHeld ?_ ?_
        · intro wz hSz; (have ye := same_yes 2 z14 ⟨#[]⟩ wz; go_simp; first | done | rfl | exact ye)
        simp only [Act.put, List.setIfInBounds_toArray, List.set_cons_zero, List.set_cons_succ]
        refine held_take (i := 23) (v := ?_) rfl (by kernel_rfl) (by kernel_rfl) (by kernel_rfl) (fun _ _ _ h => h) (by rfl) hHeld ?_ ?_
        rotate_left
        · intro wz hSz; go_simp; try with_reducible rfl
        simp only [Act.put, List.setIfInBounds_toArray, List.set_cons_zero, List.set_cons_succ]
        refine held_take (i := 24) (v := ?_) rfl (by kernel_rfl) (by kernel_rfl) (by kernel_rfl) (fun _ _ _ h => h) (by rfl) hHeld ?_ ?_
        rotate_left
        · intro wz hSz; go_simp; try with_reducible rfl
        simp only [Act.put, List.setIfInBounds_toArray, List.set_cons_zero, List.set_cons_succ]
        refine held_take (i := 25) (v := ?_) rfl (by kernel_rfl) (by kernel_rfl) (by kernel_rfl) (fun _ _ _ h => h) (by rfl) hHeld ?_ ?_
        rotate_left
        · intro wz hSz; go_simp; try with_reducible rfl
        simp only [Act.put, List.setIfInBounds_toArray, List.set_cons_zero, List.set_cons_succ]
        refine held_take (i := 26) (v := ?_) rfl (by kernel_rfl) (by kernel_rfl) (by kernel_rfl) (fun _ _ _ h => h) (by rfl) hHeld ?_ ?_
        rotate_left
        · intro wz hSz; go_simp; try with_reducible rfl
        simp only [Act.put, List.setIfInBounds_toArray, List.set_cons_zero, List.set_cons_succ]
        refine held_take (i := 28) (v := ?_) rfl (by kernel_rfl) (by kernel_rfl) (by kernel_rfl) (fun _ _ _ h => h) (by rfl) hHeld ?_ ?_
        rotate_left
        · intro wz hSz; go_simp; try with_reducible rfl
        simp only [Act.put, List.setIfInBounds_toArray, List.set_cons_zero, List.set_cons_succ]
        refine held_take (i := 29) (v := ?_) rfl (by kernel_rfl) (by kernel_rfl) (by kernel_rfl) (fun _ _ _ h => h) (by rfl) hHeld ?_ ?_
        rotate_left
        · intro wz hSz; go_simp; try with_reducible rfl
        simp only [Act.put, List.setIfInBounds_toArray, List.set_cons_zero, List.set_cons_succ]
        refine held_take (i := 30) (v := ?_) rfl (by kernel_rfl) (by kernel_rfl) (by kernel_rfl) (fun _ _ _ h => h) (by rfl) hHeld ?_ ?_
        rotate_left
        · intro wz hSz; go_simp; try with_reducible rfl
        simp only [Act.put, List.setIfInBounds_toArray, List.set_cons_zero, List.set_cons_succ]
        refine held_call (i := 27) (by kernel_rfl) rfl (by rfl) (by go_simp; try with_reducible rfl) (c15 _ (HE.out.later (below_to B5.out hHeld))) ?_
        rintro e wy ⟨rfl, hy⟩
        refine ⟨_, rfl, below_to hHeld hy, ?_⟩
        replace hHeld := below_to hHeld hy
        simp only [Act.put, List.setIfInBounds_toArray, List.set_cons_zero, List.set_cons_succ]
        refine held_call (i := 31) (by kernel_rfl) rfl (by rfl) (by go_simp; try with_reducible rfl) (t15 _) ?_
        rintro e wy ⟨rfl, hy⟩
        refine ⟨_, rfl, below_to hHeld hy, ?_⟩
        replace hHeld := below_to hHeld hy
        simp only [Act.put, List.setIfInBounds_toArray, List.set_cons_zero, List.set_cons_succ]
        refine held_take (i := 32) (v := .bool true) rfl (by kernel_rfl) (by kernel_rfl) (by kernel_rfl) (fun _ _ _ h => h) (by rfl) hHeld ?_ ?_
        · intro wz hSz; (have ye := same_yes 2 z15 ⟨#[]⟩ wz; go_simp; first | done | rfl | exact ye)
        simp only [Act.put, List.setIfInBounds_toArray, List.set_cons_zero, List.set_cons_succ]
        refine held_take (i := 33) (v := ?_) rfl (by kernel_rfl) (by kernel_rfl) (by kernel_rfl) (fun _ _ _ h => h) (by rfl) hHeld ?_ ?_
        rotate_left
        · intro wz hSz; go_simp; try with_reducible rfl
        simp only [Act.put, List.setIfInBounds_toArray, List.set_cons_zero, List.set_cons_succ]
        refine held_take (i := 34) (v := ?_) rfl (by kernel_rfl) (by kernel_rfl) (by kernel_rfl) (fun _ _ _ h => h) (by rfl) hHeld ?_ ?_
        rotate_left
        · intro wz hSz; go_simp; try with_reducible rfl
        simp only [Act.put, List.setIfInBounds_toArray, List.set_cons_zero, List.set_cons_succ]
        refine held_take (i := 35) (v := ?_) rfl (by kernel_rfl) (by kernel_rfl) (by kernel_rfl) (fun _ _ _ h => h) (by rfl) hHeld ?_ ?_
        rotate_left
        · intro wz hSz; go_simp; try with_reducible rfl
        simp only [Act.put, List.setIfInBounds_toArray, List.set_cons_zero, List.set_cons_succ]
        refine held_take (i := 36) (v := ?_) rfl (by kernel_rfl) (by kernel_rfl) (by kernel_rfl) (fun _ _ _ h => h) (by rfl) hHeld ?_ ?_
        rotate_left
        · intro wz hSz; go_simp; try with_reducible rfl
        simp only [Act.put, List.setIfInBounds_toArray, List.set_cons_zero, List.set_cons_succ]
        refine held_take (i := 38) (v := ?_) rfl (by kernel_rfl) (by kernel_rfl) (by kernel_rfl) (fun _ _ _ h => h) (by rfl) hHeld ?_ ?_
        rotate_left
        · intro wz hSz; go_simp; try with_reducible rfl
        simp only [Act.put, List.setIfInBounds_toArray, List.set_cons_zero, List.set_cons_succ]
        refine held_take (i := 39) (v := ?_) rfl (by kernel_rfl) (by kernel_rfl) (by kernel_rfl) (fun _ _ _ h => h) (by rfl) hHeld ?_ ?_
        rotate_left
        · intro wz hSz; go_simp; try with_reducible rfl
        simp only [Act.put, List.setIfInBounds_toArray, List.set_cons_zero, List.set_cons_succ]
        refine held_take (i := 40) (v := ?_) rfl (by kernel_rfl) (by kernel_rfl) (by kernel_rfl) (fun _ _ _ h => h) (by rfl) hHeld ?_ ?_
        rotate_left
        · intro wz hSz; go_simp; try with_reducible rfl
        simp only [Act.put, List.setIfInBounds_toArray, List.set_cons_zero, List.set_cons_succ]
        refine held_call (i := 37) (by kernel_rfl) rfl (by rfl) (by go_simp; try with_reducible rfl) (c12 _ (HE.out.later (below_to B5.out hHeld))) ?_
        rintro e wy ⟨rfl, hy⟩
        refine ⟨_, rfl, below_to hHeld hy, ?_⟩
        replace hHeld := below_to hHeld hy
        simp only [Act.put, List.setIfInBounds_toArray, List.set_cons_zero, List.set_cons_succ]
        refine held_call (i := 41) (by kernel_rfl) rfl (by rfl) (by go_simp; try with_reducible rfl) (t12 _) ?_
        rintro e wy ⟨rfl, hy⟩
        refine ⟨_, rfl, below_to hHeld hy, ?_⟩
        replace hHeld := below_to hHeld hy
        simp only [Act.put, List.setIfInBounds_toArray, List.set_cons_zero, List.set_cons_succ]
        refine held_take (i := 42) (v := .bool true) rfl (by kernel_rfl) (by kernel_rfl) (by kernel_rfl) (fun _ _ _ h => h) (by rfl) hHeld ?_ ?_
        · intro wz hSz; (have ye := same_yes 2 z12 ⟨#[]⟩ wz; go_simp; first | done | rfl | exact ye)
        simp only [Act.put, List.setIfInBounds_toArray, List.set_cons_zero, List.set_cons_succ]
        refine held_take (i := 43) (v := ?_) rfl (by kernel_rfl) (by kernel_rfl) (by kernel_rfl) (fun _ _ _ h => h) (by rfl) hHeld ?_ ?_
        rotate_left
        · intro wz hSz; go_simp; try with_reducible rfl
        simp only [Act.put, List.setIfInBounds_toArray, List.set_cons_zero, List.set_cons_succ]
        refine held_take (i := 44) (v := ?_) rfl (by kernel_rfl) (by kernel_rfl) (by kernel_rfl) (fun _ _ _ h => h) (by rfl) hHeld ?_ ?_
        rotate_left
        · intro wz hSz; go_simp; try with_reducible rfl
        simp only [Act.put, List.setIfInBounds_toArray, List.set_cons_zero, List.set_cons_succ]
        refine held_take (i := 45) (v := ?_) rfl (by kernel_rfl) (by kernel_rfl) (by kernel_rfl) (fun _ _ _ h => h) (by rfl) hHeld ?_ ?_
        rotate_left
        · intro wz hSz; go_simp; try with_reducible rfl
        simp only [Act.put, List.setIfInBounds_toArray, List.set_cons_zero, List.set_cons_succ]
        refine held_take (i := 46) (v := ?_) rfl (by kernel_rfl) (by kernel_rfl) (by kernel_rfl) (fun _ _ _ h => h) (by rfl) hHeld ?_ ?_
        rotate_left
        · intro wz hSz; go_simp; try with_reducible rfl
        simp only [Act.put, List.setIfInBounds_toArray, List.set_cons_zero, List.set_cons_succ]
        refine held_take (i := 48) (v := ?_) rfl (by kernel_rfl) (by kernel_rfl) (by kernel_rfl) (fun _ _ _ h => h) (by rfl) hHeld ?_ ?_
        rotate_left
        · intro wz hSz; go_simp; try with_reducible rfl
        simp only [Act.put, List.setIfInBounds_toArray, List.set_cons_zero, List.set_cons_succ]
        refine held_take (i := 49) (v := ?_) rfl (by kernel_rfl) (by kernel_rfl) (by kernel_rfl) (fun _ _ _ h => h) (by rfl) hHeld ?_ ?_
        rotate_left
        · intro wz hSz; go_simp; try with_reducible rfl
        simp only [Act.put, List.setIfInBounds_toArray, List.set_cons_zero, List.set_cons_succ]
        refine held_take (i := 50) (v := ?_) rfl (by kernel_rfl) (by kernel_rfl) (by kernel_rfl) (fun _ _ _ h => h) (by rfl) hHeld ?_ ?_
        rotate_left
        · intro wz hSz; go_simp; try with_reducible rfl
        simp only [Act.put, List.setIfInBounds_toArray, List.set_cons_zero, List.set_cons_succ]
        refine held_call (i := 47) (by kernel_rfl) rfl (by rfl) (by go_simp; try with_reducible rfl) (c13 _ (HE.out.later (below_to B5.out hHeld))) ?_
        rintro e wy ⟨rfl, hy⟩
        refine ⟨_, rfl, below_to hHeld hy, ?_⟩
        replace hHeld := below_to hHeld hy
        simp only [Act.put, List.setIfInBounds_toArray, List.set_cons_zero, List.set_cons_succ]
        refine held_call (i := 51) (by kernel_rfl) rfl (by rfl) (by go_simp; try with_reducible rfl) (t13 _) ?_
        rintro e wy ⟨rfl, hy⟩
        refine ⟨_, rfl, below_to hHeld hy, ?_⟩
        replace hHeld := below_to hHeld hy
        simp only [Act.put, List.setIfInBounds_toArray, List.set_cons_zero, List.set_cons_succ]
        refine held_take (i := 52) (v := .bool true) rfl (by kernel_rfl) (by kernel_rfl) (by kernel_rfl) (fun _ _ _ h => h) (by rfl) hHeld ?_ ?_
        · intro wz hSz; (have ye := same_yes 2 z13 ⟨#[]⟩ wz; go_simp; first | done | rfl | exact ye)
        simp only [Act.put, List.setIfInBounds_toArray, List.set_cons_zero, List.set_cons_succ]
        refine held_take (i := 53) (v := ?_) rfl (by kernel_rfl) (by kernel_rfl) (by kernel_rfl) (fun _ _ _ h => h) (by rfl) hHeld ?_ ?_
        rotate_left
        · intro wz hSz; go_simp; try with_reducible rfl
        simp only [Act.put, List.setIfInBounds_toArray, List.set_cons_zero, List.set_cons_succ]
        refine held_take (i := 54) (v := ?_) rfl (by kernel_rfl) (by kernel_rfl) (by kernel_rfl) (fun _ _ _ h => h) (by rfl) hHeld ?_ ?_
        rotate_left
        · intro wz hSz; go_simp; try with_reducible rfl
        simp only [Act.put, List.setIfInBounds_toArray, List.set_cons_zero, List.set_cons_succ]
        refine held_call (i := 55) (by kernel_rfl) rfl (by rfl) (by go_simp; try with_reducible rfl) (evawake_any _ (HE.out.later (below_to B5.out hHeld))) ?_
        rintro e wy ⟨rfl, hy⟩
        refine ⟨_, rfl, below_to hHeld hy, ?_⟩
        replace hHeld := below_to hHeld hy
        simp only [Act.put, List.setIfInBounds_toArray, List.set_cons_zero, List.set_cons_succ]
        refine held_take (i := 56) (v := ?_) rfl (by kernel_rfl) (by kernel_rfl) (by kernel_rfl) (fun _ _ _ h => h) (by rfl) hHeld ?_ ?_
        rotate_left
        · intro wz hSz; go_simp; try with_reducible rfl
        simp only [Act.put, List.setIfInBounds_toArray, List.set_cons_zero, List.set_cons_succ]
        refine held_take (i := 57) (v := ?_) rfl (by kernel_rfl) (by kernel_rfl) (by kernel_rfl) (fun _ _ _ h => h) (by rfl) hHeld ?_ ?_
        rotate_left
        · intro wz hSz; go_simp; try with_reducible rfl
        simp only [Act.put, List.setIfInBounds_toArray, List.set_cons_zero, List.set_cons_succ]
        refine wpAnyH_done (by kernel_rfl) ?_ _
        have HBF := Lib.hid (below_to B5.out hHeld)
        go_wp2_with fail
        go_ret
        exact ⟨rfl, HBF.out⟩
  · have c7 := two_val (K := 4) (n := 1) (s := []) (by rw [op_add]; exact nv_out hs) (by decide) (by decide) a0 a1 b0 b1
    have hsg : (!(decide (a < 0) == decide (b < 0))) = false := by
      rcases Int.lt_or_le a 0 with h | h <;> rcases Int.lt_or_le b 0 with h' | h'
      · rw [decide_eq_true h, decide_eq_true h']; rfl
      · omega
      · omega
      · rw [decide_eq_false (by omega), decide_eq_false (by omega)]; rfl
    have hd : -9223372036854775808 ≤ a - b ∧ a - b ≤ 9223372036854775807 := by omega
    obtain ⟨hd0, hd1⟩ := hd
    have c8 := two_val (K := 1) (n := a - b) (s := []) (by rw [op_sub]; exact nv_in hd0 hd1) (by decide) (by decide) a0 a1 b0 b1
    have hdd : (a - b != a - b) = false := by simp
    rcases hmz with hmz | ⟨hmz, hmz2⟩
    all_goals
      go_enter Tryz.func3, Tryz.ntmps3
      go_wp2_with fail
      (with_reducible refine (c7 w hE0).mono ?_)
      rintro e w1 ⟨rfl, b1⟩
      have s1 := At3.new w1 4 1 ⟨#[]⟩
      have hba := below_alloc w1 (.cells #[.int .i64 4, .int .i64 1, .string ⟨#[]⟩] 23)
      have B1 := Lib.hid (below_to b1 hba)
      have AS := Lib.hid s1
      clear b1 hba s1
      go_wp2_with fail
      (with_reducible refine (c8 (w1.alloc (.cells #[.int .i64 4, .int .i64 1, .string ⟨#[]⟩] 23)) (HE.out.later B1.out)).mono ?_)
      rintro e w2 ⟨rfl, b2⟩
      have s2 := At3.new w2 1 (a - b) ⟨#[]⟩
      have hba := below_alloc w2 (.cells #[.int .i64 1, .int .i64 (a - b), .string ⟨#[]⟩] 23)
      have b12 := below_to b2 hba
      have B2 := Lib.hid (below_to B1.out b12)
      have AS2 := Lib.hid (AS.out.later b12)
      have AD2 := Lib.hid s2
      obtain ⟨-, x0, x1, x2⟩ := AS2.out
      obtain ⟨-, y0, y1, y2⟩ := s2
      clear b2 hba b12 AS
      have nb := same_no 4 1 ⟨#[]⟩
      have B3 := B2
      go_wp2_with fail
      (with_reducible refine (c10 (w2.alloc (.cells #[.int .i64 1, .int .i64 (a - b), .string ⟨#[]⟩] 23)) (HE.out.later B3.out)).mono ?_)
      rintro e w4 ⟨rfl, b4⟩
      have s4 := At3.new w4 1 Q ⟨#[]⟩
      have hba := below_alloc w4 (.cells #[.int .i64 1, .int .i64 Q, .string ⟨#[]⟩] 23)
      have B4 := Lib.hid (below_to B3.out (below_to b4 hba))
      have AQ4 := Lib.hid s4
      clear b4 hba s4 y0 y1 y2 nb
      go_wp2_with fail
      (with_reducible refine (c11 (w4.alloc (.cells #[.int .i64 1, .int .i64 Q, .string ⟨#[]⟩] 23)) (HE.out.later B4.out)).mono ?_)
      rintro e w5 ⟨rfl, b5⟩
      have s5 := At3.new w5 1 M ⟨#[]⟩
      have hba := below_alloc w5 (.cells #[.int .i64 1, .int .i64 M, .string ⟨#[]⟩] 23)
      have b45 := below_to b5 hba
      have B5 := Lib.hid (below_to B4.out b45)
      have hE5 := HE.out.later B5.out
      have AQ5 := AQ4.out.later b45
      have AM5 := s5
      have hAQ := AQ4.out.later b45
      have hAM := s5
      obtain ⟨-, p0, p1, p2⟩ := AQ5
      obtain ⟨-, r0, r1, r2⟩ := AM5
      clear b5 hba b45
      go_wp2_with fail
      skip
      generalize hW5 : (w5.alloc (.cells #[.int .i64 1, .int .i64 M, .string ⟨#[]⟩] 23)) = W5 at *
      have AQ := Lib.hid hAQ
      have AM := Lib.hid hAM
      clear p0 p1 p2 r0 r1 r2 hW5 hAQ hAM s5 hE5
      refine wp_region_held_drew (S := fun w' => Below W5.heap.size W5 w') (by kernel_rfl) ((Below.refl _ _).drew) (fun hHeld => ?_)
      refine held_take (i := 0) (v := ?_) rfl (by kernel_rfl) (by kernel_rfl) (by kernel_rfl) (fun _ _ _ h => h) (by rfl) hHeld ?_ ?_
      rotate_left
      · intro wz hSz; obtain ⟨-, q0, q1, q2⟩ := AQ.out.later hSz; go_simp; try with_reducible rfl
      simp only [Act.put, List.setIfInBounds_toArray, List.set_cons_zero, List.set_cons_succ]
      refine held_take (i := 1) (v := ?_) rfl (by kernel_rfl) (by kernel_rfl) (by kernel_rfl) (fun _ _ _ h => h) (by rfl) hHeld ?_ ?_
      rotate_left
      · intro wz hSz; go_simp; try with_reducible rfl
      simp only [Act.put, List.setIfInBounds_toArray, List.set_cons_zero, List.set_cons_succ]
      refine held_take (i := 2) (v := ?_) rfl (by kernel_rfl) (by kernel_rfl) (by kernel_rfl) (fun _ _ _ h => h) (by rfl) hHeld ?_ ?_
      rotate_left
      · intro wz hSz; go_simp; try with_reducible rfl
      simp only [Act.put, List.setIfInBounds_toArray, List.set_cons_zero, List.set_cons_succ]
      refine held_take (i := 3) (v := .int .i64 Q) rfl (by kernel_rfl) (by kernel_rfl) (by kernel_rfl) (fun _ _ _ h => h) (by rfl) hHeld ?_ ?_
      · intro wz hSz; (go_simp; first | done | rfl | exact i64_id ⟨q0', q1'⟩)
      simp only [Act.put, List.setIfInBounds_toArray, List.set_cons_zero, List.set_cons_succ]
      refine held_take (i := 4) (v := ?_) rfl (by kernel_rfl) (by kernel_rfl) (by kernel_rfl) (fun _ _ _ h => h) (by rfl) hHeld ?_ ?_
      rotate_left
      · intro wz hSz; go_simp; try with_reducible rfl
      simp only [Act.put, List.setIfInBounds_toArray, List.set_cons_zero, List.set_cons_succ]
      refine held_take (i := 5) (v := .bool true) rfl (by kernel_rfl) (by kernel_rfl) (by kernel_rfl) (fun _ _ _ h => h) (by rfl) hHeld ?_ ?_
      · intro wz hSz; (have ye := same_yes 1 Q ⟨#[]⟩ wz; go_simp; first | done | rfl | exact ye)
      simp only [Act.put, List.setIfInBounds_toArray, List.set_cons_zero, List.set_cons_succ]
      refine held_take (i := 6) (v := ?_) rfl (by kernel_rfl) (by kernel_rfl) (by kernel_rfl) (fun _ _ _ h => h) (by rfl) hHeld ?_ ?_
      rotate_left
      · intro wz hSz; go_simp; try with_reducible rfl
      simp only [Act.put, List.setIfInBounds_toArray, List.set_cons_zero, List.set_cons_succ]
      refine held_take (i := 7) (v := ?_) rfl (by kernel_rfl) (by kernel_rfl) (by kernel_rfl) (fun _ _ _ h => h) (by rfl) hHeld ?_ ?_
      rotate_left
      · intro wz hSz; obtain ⟨-, q0, q1, q2⟩ := AM.out.later hSz; go_simp; try with_reducible rfl
      simp only [Act.put, List.setIfInBounds_toArray, List.set_cons_zero, List.set_cons_succ]
      refine held_take (i := 8) (v := ?_) rfl (by kernel_rfl) (by kernel_rfl) (by kernel_rfl) (fun _ _ _ h => h) (by rfl) hHeld ?_ ?_
      rotate_left
      · intro wz hSz; go_simp; try with_reducible rfl
      simp only [Act.put, List.setIfInBounds_toArray, List.set_cons_zero, List.set_cons_succ]
      refine held_take (i := 9) (v := ?_) rfl (by kernel_rfl) (by kernel_rfl) (by kernel_rfl) (fun _ _ _ h => h) (by rfl) hHeld ?_ ?_
      rotate_left
      · intro wz hSz; go_simp; try with_reducible rfl
      simp only [Act.put, List.setIfInBounds_toArray, List.set_cons_zero, List.set_cons_succ]
      refine held_take (i := 10) (v := .int .i64 M) rfl (by kernel_rfl) (by kernel_rfl) (by kernel_rfl) (fun _ _ _ h => h) (by rfl) hHeld ?_ ?_
      · intro wz hSz; (go_simp; first | done | rfl | simp [*] | exact i64_id ⟨m0', m1'⟩)
      simp only [Act.put, List.setIfInBounds_toArray, List.set_cons_zero, List.set_cons_succ]
      refine held_take (i := 11) (v := ?_) rfl (by kernel_rfl) (by kernel_rfl) (by kernel_rfl) (fun _ _ _ h => h) (by rfl) hHeld ?_ ?_
      rotate_left
      · intro wz hSz; go_simp; try with_reducible rfl
      simp only [Act.put, List.setIfInBounds_toArray, List.set_cons_zero, List.set_cons_succ]
      refine held_take (i := 12) (v := .bool true) rfl (by kernel_rfl) (by kernel_rfl) (by kernel_rfl) (fun _ _ _ h => h) (by rfl) hHeld ?_ ?_
      · intro wz hSz; (have ye := same_yes 1 M ⟨#[]⟩ wz; go_simp; first | done | rfl | exact ye)
      simp only [Act.put, List.setIfInBounds_toArray, List.set_cons_zero, List.set_cons_succ]
      refine held_take (i := 13) (v := ?_) rfl (by kernel_rfl) (by kernel_rfl) (by kernel_rfl) (fun _ _ _ h => h) (by rfl) hHeld ?_ ?_
      rotate_left
      · intro wz hSz; go_simp; try with_reducible rfl
      simp only [Act.put, List.setIfInBounds_toArray, List.set_cons_zero, List.set_cons_succ]
      refine held_take (i := 14) (v := ?_) rfl (by kernel_rfl) (by kernel_rfl) (by kernel_rfl) (fun _ _ _ h => h) (by rfl) hHeld ?_ ?_
      rotate_left
      · intro wz hSz; go_simp; try with_reducible rfl
      simp only [Act.put, List.setIfInBounds_toArray, List.set_cons_zero, List.set_cons_succ]
      refine held_take (i := 15) (v := ?_) rfl (by kernel_rfl) (by kernel_rfl) (by kernel_rfl) (fun _ _ _ h => h) (by rfl) hHeld ?_ ?_
      rotate_left
      · intro wz hSz; go_simp; try with_reducible rfl
      simp only [Act.put, List.setIfInBounds_toArray, List.set_cons_zero, List.set_cons_succ]
      refine held_take (i := 16) (v := ?_) rfl (by kernel_rfl) (by kernel_rfl) (by kernel_rfl) (fun _ _ _ h => h) (by rfl) hHeld ?_ ?_
      rotate_left
      · intro wz hSz; go_simp; try with_reducible rfl
      simp only [Act.put, List.setIfInBounds_toArray, List.set_cons_zero, List.set_cons_succ]
      refine held_take (i := 18) (v := ?_) rfl (by kernel_rfl) (by kernel_rfl) (by kernel_rfl) (fun _ _ _ h => h) (by rfl) hHeld ?_ ?_
      rotate_left
      · intro wz hSz; go_simp; try with_reducible rfl
      simp only [Act.put, List.setIfInBounds_toArray, List.set_cons_zero, List.set_cons_succ]
      refine held_take (i := 19) (v := ?_) rfl (by kernel_rfl) (by kernel_rfl) (by kernel_rfl) (fun _ _ _ h => h) (by rfl) hHeld ?_ ?_
      rotate_left
      · intro wz hSz; go_simp; try with_reducible rfl
      simp only [Act.put, List.setIfInBounds_toArray, List.set_cons_zero, List.set_cons_succ]
      refine held_take (i := 20) (v := ?_) rfl (by kernel_rfl) (by kernel_rfl) (by kernel_rfl) (fun _ _ _ h => h) (by rfl) hHeld ?_ ?_
      rotate_left
      · intro wz hSz; go_simp; try with_reducible rfl
      simp only [Act.put, List.setIfInBounds_toArray, List.set_cons_zero, List.set_cons_succ]
      refine held_call (i := 17) (by kernel_rfl) rfl (by rfl) (by go_simp; try with_reducible rfl) (c14 _ (HE.out.later (below_to B5.out hHeld))) ?_
      rintro e wy ⟨rfl, hy⟩
      refine ⟨_, rfl, below_to hHeld hy, ?_⟩
      replace hHeld := below_to hHeld hy
      simp only [Act.put, List.setIfInBounds_toArray, List.set_cons_zero, List.set_cons_succ]
      refine held_call (i := 21) (by kernel_rfl) rfl (by rfl) (by go_simp; try with_reducible rfl) (t14 _) ?_
      rintro e wy ⟨rfl, hy⟩
      refine ⟨_, rfl, below_to hHeld hy, ?_⟩
      replace hHeld := below_to hHeld hy
      simp only [Act.put, List.setIfInBounds_toArray, List.set_cons_zero, List.set_cons_succ]
      refine held_take (i := 22) (v := .bool true) rfl (by kernel_rfl) (by kernel_rfl) (by kernel_rfl) (fun _ _ _ h => h) (by rfl) hHeld ?_ ?_
      · intro wz hSz; (have ye := same_yes 2 z14 ⟨#[]⟩ wz; go_simp; first | done | rfl | exact ye)
      simp only [Act.put, List.setIfInBounds_toArray, List.set_cons_zero, List.set_cons_succ]
      refine held_take (i := 23) (v := ?_) rfl (by kernel_rfl) (by kernel_rfl) (by kernel_rfl) (fun _ _ _ h => h) (by rfl) hHeld ?_ ?_
      rotate_left
      · intro wz hSz; go_simp; try with_reducible rfl
      simp only [Act.put, List.setIfInBounds_toArray, List.set_cons_zero, List.set_cons_succ]
      refine held_take (i := 24) (v := ?_) rfl (by kernel_rfl) (by kernel_rfl) (by kernel_rfl) (fun _ _ _ h => h) (by rfl) hHeld ?_ ?_
      rotate_left
      · intro wz hSz; go_simp; try with_reducible rfl
      simp only [Act.put, List.setIfInBounds_toArray, List.set_cons_zero, List.set_cons_succ]
      refine held_take (i := 25) (v := ?_) rfl (by kernel_rfl) (by kernel_rfl) (by kernel_rfl) (fun _ _ _ h => h) (by rfl) hHeld ?_ ?_
      rotate_left
      · intro wz hSz; go_simp; try with_reducible rfl
      simp only [Act.put, List.setIfInBounds_toArray, List.set_cons_zero, List.set_cons_succ]
      refine held_take (i := 26) (v := ?_) rfl (by kernel_rfl) (by kernel_rfl) (by kernel_rfl) (fun _ _ _ h => h) (by rfl) hHeld ?_ ?_
      rotate_left
      · intro wz hSz; go_simp; try with_reducible rfl
      simp only [Act.put, List.setIfInBounds_toArray, List.set_cons_zero, List.set_cons_succ]
      refine held_take (i := 28) (v := ?_) rfl (by kernel_rfl) (by kernel_rfl) (by kernel_rfl) (fun _ _ _ h => h) (by rfl) hHeld ?_ ?_
      rotate_left
      · intro wz hSz; go_simp; try with_reducible rfl
      simp only [Act.put, List.setIfInBounds_toArray, List.set_cons_zero, List.set_cons_succ]
      refine held_take (i := 29) (v := ?_) rfl (by kernel_rfl) (by kernel_rfl) (by kernel_rfl) (fun _ _ _ h => h) (by rfl) hHeld ?_ ?_
      rotate_left
      · intro wz hSz; go_simp; try with_reducible rfl
      simp only [Act.put, List.setIfInBounds_toArray, List.set_cons_zero, List.set_cons_succ]
      refine held_take (i := 30) (v := ?_) rfl (by kernel_rfl) (by kernel_rfl) (by kernel_rfl) (fun _ _ _ h => h) (by rfl) hHeld ?_ ?_
      rotate_left
      · intro wz hSz; go_simp; try with_reducible rfl
      simp only [Act.put, List.setIfInBounds_toArray, List.set_cons_zero, List.set_cons_succ]
      refine held_call (i := 27) (by kernel_rfl) rfl (by rfl) (by go_simp; try with_reducible rfl) (c15 _ (HE.out.later (below_to B5.out hHeld))) ?_
      rintro e wy ⟨rfl, hy⟩
      refine ⟨_, rfl, below_to hHeld hy, ?_⟩
      replace hHeld := below_to hHeld hy
      simp only [Act.put, List.setIfInBounds_toArray, List.set_cons_zero, List.set_cons_succ]
      refine held_call (i := 31) (by kernel_rfl) rfl (by rfl) (by go_simp; try with_reducible rfl) (t15 _) ?_
      rintro e wy ⟨rfl, hy⟩
      refine ⟨_, rfl, below_to hHeld hy, ?_⟩
      replace hHeld := below_to hHeld hy
      simp only [Act.put, List.setIfInBounds_toArray, List.set_cons_zero, List.set_cons_succ]
      refine held_take (i := 32) (v := .bool true) rfl (by kernel_rfl) (by kernel_rfl) (by kernel_rfl) (fun _ _ _ h => h) (by rfl) hHeld ?_ ?_
      · intro wz hSz; (have ye := same_yes 2 z15 ⟨#[]⟩ wz; go_simp; first | done | rfl | exact ye)
      simp only [Act.put, List.setIfInBounds_toArray, List.set_cons_zero, List.set_cons_succ]
      refine held_take (i := 33) (v := ?_) rfl (by kernel_rfl) (by kernel_rfl) (by kernel_rfl) (fun _ _ _ h => h) (by rfl) hHeld ?_ ?_
      rotate_left
      · intro wz hSz; go_simp; try with_reducible rfl
      simp only [Act.put, List.setIfInBounds_toArray, List.set_cons_zero, List.set_cons_succ]
      refine held_take (i := 34) (v := ?_) rfl (by kernel_rfl) (by kernel_rfl) (by kernel_rfl) (fun _ _ _ h => h) (by rfl) hHeld ?_ ?_
      rotate_left
      · intro wz hSz; go_simp; try with_reducible rfl
      simp only [Act.put, List.setIfInBounds_toArray, List.set_cons_zero, List.set_cons_succ]
      refine held_take (i := 35) (v := ?_) rfl (by kernel_rfl) (by kernel_rfl) (by kernel_rfl) (fun _ _ _ h => h) (by rfl) hHeld ?_ ?_
      rotate_left
      · intro wz hSz; go_simp; try with_reducible rfl
      simp only [Act.put, List.setIfInBounds_toArray, List.set_cons_zero, List.set_cons_succ]
      refine held_take (i := 36) (v := ?_) rfl (by kernel_rfl) (by kernel_rfl) (by kernel_rfl) (fun _ _ _ h => h) (by rfl) hHeld ?_ ?_
      rotate_left
      · intro wz hSz; go_simp; try with_reducible rfl
      simp only [Act.put, List.setIfInBounds_toArray, List.set_cons_zero, List.set_cons_succ]
      refine held_take (i := 38) (v := ?_) rfl (by kernel_rfl) (by kernel_rfl) (by kernel_rfl) (fun _ _ _ h => h) (by rfl) hHeld ?_ ?_
      rotate_left
      · intro wz hSz; go_simp; try with_reducible rfl
      simp only [Act.put, List.setIfInBounds_toArray, List.set_cons_zero, List.set_cons_succ]
      refine held_take (i := 39) (v := ?_) rfl (by kernel_rfl) (by kernel_rfl) (by kernel_rfl) (fun _ _ _ h => h) (by rfl) hHeld ?_ ?_
      rotate_left
      · intro wz hSz; go_simp; try with_reducible rfl
      simp only [Act.put, List.setIfInBounds_toArray, List.set_cons_zero, List.set_cons_succ]
      refine held_take (i := 40) (v := ?_) rfl (by kernel_rfl) (by kernel_rfl) (by kernel_rfl) (fun _ _ _ h => h) (by rfl) hHeld ?_ ?_
      rotate_left
      · intro wz hSz; go_simp; try with_reducible rfl
      simp only [Act.put, List.setIfInBounds_toArray, List.set_cons_zero, List.set_cons_succ]
      refine held_call (i := 37) (by kernel_rfl) rfl (by rfl) (by go_simp; try with_reducible rfl) (c12 _ (HE.out.later (below_to B5.out hHeld))) ?_
      rintro e wy ⟨rfl, hy⟩
      refine ⟨_, rfl, below_to hHeld hy, ?_⟩
      replace hHeld := below_to hHeld hy
      simp only [Act.put, List.setIfInBounds_toArray, List.set_cons_zero, List.set_cons_succ]
      refine held_call (i := 41) (by kernel_rfl) rfl (by rfl) (by go_simp; try with_reducible rfl) (t12 _) ?_
      rintro e wy ⟨rfl, hy⟩
      refine ⟨_, rfl, below_to hHeld hy, ?_⟩
      replace hHeld := below_to hHeld hy
      simp only [Act.put, List.setIfInBounds_toArray, List.set_cons_zero, List.set_cons_succ]
      refine held_take (i := 42) (v := .bool true) rfl (by kernel_rfl) (by kernel_rfl) (by kernel_rfl) (fun _ _ _ h => h) (by rfl) hHeld ?_ ?_
      · intro wz hSz; (have ye := same_yes 2 z12 ⟨#[]⟩ wz; go_simp; first | done | rfl | exact ye)
      simp only [Act.put, List.setIfInBounds_toArray, List.set_cons_zero, List.set_cons_succ]
      refine held_take (i := 43) (v := ?_) rfl (by kernel_rfl) (by kernel_rfl) (by kernel_rfl) (fun _ _ _ h => h) (by rfl) hHeld ?_ ?_
      rotate_left
      · intro wz hSz; go_simp; try with_reducible rfl
      simp only [Act.put, List.setIfInBounds_toArray, List.set_cons_zero, List.set_cons_succ]
      refine held_take (i := 44) (v := ?_) rfl (by kernel_rfl) (by kernel_rfl) (by kernel_rfl) (fun _ _ _ h => h) (by rfl) hHeld ?_ ?_
      rotate_left
      · intro wz hSz; go_simp; try with_reducible rfl
      simp only [Act.put, List.setIfInBounds_toArray, List.set_cons_zero, List.set_cons_succ]
      refine held_take (i := 45) (v := ?_) rfl (by kernel_rfl) (by kernel_rfl) (by kernel_rfl) (fun _ _ _ h => h) (by rfl) hHeld ?_ ?_
      rotate_left
      · intro wz hSz; go_simp; try with_reducible rfl
      simp only [Act.put, List.setIfInBounds_toArray, List.set_cons_zero, List.set_cons_succ]
      refine held_take (i := 46) (v := ?_) rfl (by kernel_rfl) (by kernel_rfl) (by kernel_rfl) (fun _ _ _ h => h) (by rfl) hHeld ?_ ?_
      rotate_left
      · intro wz hSz; go_simp; try with_reducible rfl
      simp only [Act.put, List.setIfInBounds_toArray, List.set_cons_zero, List.set_cons_succ]
      refine held_take (i := 48) (v := ?_) rfl (by kernel_rfl) (by kernel_rfl) (by kernel_rfl) (fun _ _ _ h => h) (by rfl) hHeld ?_ ?_
      rotate_left
      · intro wz hSz; go_simp; try with_reducible rfl
      simp only [Act.put, List.setIfInBounds_toArray, List.set_cons_zero, List.set_cons_succ]
      refine held_take (i := 49) (v := ?_) rfl (by kernel_rfl) (by kernel_rfl) (by kernel_rfl) (fun _ _ _ h => h) (by rfl) hHeld ?_ ?_
      rotate_left
      · intro wz hSz; go_simp; try with_reducible rfl
      simp only [Act.put, List.setIfInBounds_toArray, List.set_cons_zero, List.set_cons_succ]
      refine held_take (i := 50) (v := ?_) rfl (by kernel_rfl) (by kernel_rfl) (by kernel_rfl) (fun _ _ _ h => h) (by rfl) hHeld ?_ ?_
      rotate_left
      · intro wz hSz; go_simp; try with_reducible rfl
      simp only [Act.put, List.setIfInBounds_toArray, List.set_cons_zero, List.set_cons_succ]
      refine held_call (i := 47) (by kernel_rfl) rfl (by rfl) (by go_simp; try with_reducible rfl) (c13 _ (HE.out.later (below_to B5.out hHeld))) ?_
      rintro e wy ⟨rfl, hy⟩
      refine ⟨_, rfl, below_to hHeld hy, ?_⟩
      replace hHeld := below_to hHeld hy
      simp only [Act.put, List.setIfInBounds_toArray, List.set_cons_zero, List.set_cons_succ]
      refine held_call (i := 51) (by kernel_rfl) rfl (by rfl) (by go_simp; try with_reducible rfl) (t13 _) ?_
      rintro e wy ⟨rfl, hy⟩
      refine ⟨_, rfl, below_to hHeld hy, ?_⟩
      replace hHeld := below_to hHeld hy
      simp only [Act.put, List.setIfInBounds_toArray, List.set_cons_zero, List.set_cons_succ]
      refine held_take (i := 52) (v := .bool true) rfl (by kernel_rfl) (by kernel_rfl) (by kernel_rfl) (fun _ _ _ h => h) (by rfl) hHeld ?_ ?_
      · intro wz hSz; (have ye := same_yes 2 z13 ⟨#[]⟩ wz; go_simp; first | done | rfl | exact ye)
      simp only [Act.put, List.setIfInBounds_toArray, List.set_cons_zero, List.set_cons_succ]
      refine held_take (i := 53) (v := ?_) rfl (by kernel_rfl) (by kernel_rfl) (by kernel_rfl) (fun _ _ _ h => h) (by rfl) hHeld ?_ ?_
      rotate_left
      · intro wz hSz; go_simp; try with_reducible rfl
      simp only [Act.put, List.setIfInBounds_toArray, List.set_cons_zero, List.set_cons_succ]
      refine held_take (i := 54) (v := ?_) rfl (by kernel_rfl) (by kernel_rfl) (by kernel_rfl) (fun _ _ _ h => h) (by rfl) hHeld ?_ ?_
      rotate_left
      · intro wz hSz; go_simp; try with_reducible rfl
      simp only [Act.put, List.setIfInBounds_toArray, List.set_cons_zero, List.set_cons_succ]
      refine held_call (i := 55) (by kernel_rfl) rfl (by rfl) (by go_simp; try with_reducible rfl) (evawake_any _ (HE.out.later (below_to B5.out hHeld))) ?_
      rintro e wy ⟨rfl, hy⟩
      refine ⟨_, rfl, below_to hHeld hy, ?_⟩
      replace hHeld := below_to hHeld hy
      simp only [Act.put, List.setIfInBounds_toArray, List.set_cons_zero, List.set_cons_succ]
      refine held_take (i := 56) (v := ?_) rfl (by kernel_rfl) (by kernel_rfl) (by kernel_rfl) (fun _ _ _ h => h) (by rfl) hHeld ?_ ?_
      rotate_left
      · intro wz hSz; go_simp; try with_reducible rfl
      simp only [Act.put, List.setIfInBounds_toArray, List.set_cons_zero, List.set_cons_succ]
      refine held_take (i := 57) (v := ?_) rfl (by kernel_rfl) (by kernel_rfl) (by kernel_rfl) (fun _ _ _ h => h) (by rfl) hHeld ?_ ?_
      rotate_left
      · intro wz hSz; go_simp; try with_reducible rfl
      simp only [Act.put, List.setIfInBounds_toArray, List.set_cons_zero, List.set_cons_succ]
      refine wpAnyH_done (by kernel_rfl) ?_ _
      have HBF := Lib.hid (below_to B5.out hHeld)
      go_wp2_with fail
      go_ret
      exact ⟨rfl, HBF.out⟩
end Go.Proofs.YtepppianhafdjaaGreatDoor
