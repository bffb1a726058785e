/- EvalProducts: a product is a number just where, divided by the one, it comes to the other. -/
import Derived.Test.YtepppianhafdjaaGreatDoorMEvLw
import Derived.Test.YtepppianhafdjaaGreatDoorGE
namespace Go.Proofs.YtepppianhafdjaaGreatDoor
open Go.RowKit

theorem i64_id {n : Int} (h : -9223372036854775808 ≤ n ∧ n ≤ 9223372036854775807) : IntKind.i64.wrap n = n := by rw [IntKind.wrap_i64]; omega
theorem i64_w (n : Int) : IntKind.i64.wrap n = wrap64 n := by rw [IntKind.wrap_i64]; simp only [wrap64]
set_option maxHeartbeats 8000000 in
set_option maxRecDepth 100000 in
theorem evalproducts_walk (a b : Int) (w : World) (a0 : -9223372036854775808 ≤ a) (a1 : a ≤ 9223372036854775807) (b0 : -9223372036854775808 ≤ b) (b1 : b ≤ 9223372036854775807) (hE0 : EnvP w) :
    Calls Tryz.prog 4 #[.int .i64 a, .int .i64 b] w fun e w' => e = .returned (.bool true) ∧ Below w.heap.size w w' := by
  have HE := Lib.hid hE0
  by_cases hr : -9223372036854775808 ≤ a * b ∧ a * b ≤ 9223372036854775807
  · obtain ⟨P, hP⟩ : ∃ P, a * b = P := ⟨_, rfl⟩
    rw [hP] at hr
    obtain ⟨r0, r1⟩ := hr
    have c9 := two_val (op := 9) (K := 1) (n := P) (s := []) (by rw [op_mul, hP]; exact nv_in r0 r1) (by decide) (by decide) a0 a1 b0 b1
    have c9b := two_val (op := 9) (K := 1) (n := P) (s := []) (by rw [op_mul, Int.mul_comm, hP]; exact nv_in r0 r1) (by decide) (by decide) b0 b1 a0 a1
    by_cases ha : a = 0
    · have haz : (a == 0) = true := by simpa using ha
      have hPz := Lib.hid hP
      clear ha
      go_enter Tryz.func4, Tryz.ntmps4
      go_wp2_with fail
      (with_reducible refine (c9 w hE0).mono ?_)
      rintro e w1 ⟨rfl, b1⟩
      have AP := At3.new w1 1 P ⟨#[]⟩
      have hba := below_alloc w1 (.cells #[.int .i64 1, .int .i64 P, .string ⟨#[]⟩] 23)
      have B1 := Lib.hid (below_to b1 hba)
      have HA := Lib.hid AP
      clear b1 hba AP
      go_wp2_with fail
      generalize hW5 : (w1.alloc (.cells #[.int .i64 1, .int .i64 P, .string ⟨#[]⟩] 23)) = W5 at *
      clear hW5
      refine wp_region_held_drew (S := fun w' => Below W5.heap.size W5 w') (by kernel_rfl) ((Below.refl _ _).drew) (fun hHeld => ?_)
      refine held_take (i := 0) (v := ?_) rfl (by kernel_rfl) (by kernel_rfl) (by kernel_rfl) (fun _ _ _ h => h) (by rfl) hHeld ?_ ?_
      rotate_left
      · intro wz hSz; obtain ⟨-, q0, q1, q2⟩ := HA.out.later hSz; go_simp; try with_reducible rfl
      simp only [Act.put, List.setIfInBounds_toArray, List.set_cons_zero, List.set_cons_succ]
      refine held_take (i := 1) (v := ?_) rfl (by kernel_rfl) (by kernel_rfl) (by kernel_rfl) (fun _ _ _ h => h) (by rfl) hHeld ?_ ?_
      rotate_left
      · intro wz hSz; go_simp; try with_reducible rfl
      simp only [Act.put, List.setIfInBounds_toArray, List.set_cons_zero, List.set_cons_succ]
      refine held_take (i := 2) (v := ?_) rfl (by kernel_rfl) (by kernel_rfl) (by kernel_rfl) (fun _ _ _ h => h) (by rfl) hHeld ?_ ?_
      rotate_left
      · intro wz hSz; go_simp; try with_reducible rfl
      simp only [Act.put, List.setIfInBounds_toArray, List.set_cons_zero, List.set_cons_succ]
      refine held_call (i := 3) (by kernel_rfl) rfl (by rfl) (by go_simp; try with_reducible rfl) (c9b _ (HE.out.later (below_to B1.out hHeld))) ?_
      rintro e wy ⟨rfl, hy⟩
      refine ⟨_, rfl, below_to hHeld hy, ?_⟩
      replace hHeld := below_to hHeld hy
      simp only [Act.put, List.setIfInBounds_toArray, List.set_cons_zero, List.set_cons_succ]
      refine held_take (i := 4) (v := .bool false) rfl (by kernel_rfl) (by kernel_rfl) (by kernel_rfl) (fun _ _ _ h => h) (by rfl) hHeld ?_ ?_
      · intro wz hSz; (have ye := same_no 1 P ⟨#[]⟩ wz; go_simp; first | done | rfl | exact ye)
      simp only [Act.put, List.setIfInBounds_toArray, List.set_cons_zero, List.set_cons_succ]
      refine wpAnyH_done (by kernel_rfl) ?_ _
      obtain ⟨-, p0, p1, p2⟩ := HA.out.later hHeld
      have caw := evawake_any _ (HE.out.later (below_to B1.out hHeld))
      have BH := Lib.hid (below_to B1.out hHeld)
      have ye := same_yes 1 P ⟨#[]⟩
      clear hHeld
      go_wp2_with fail
      (with_reducible refine caw.mono ?_)
      rintro e w6 ⟨rfl, b6⟩
      have B6 := Lib.hid (below_to BH.out b6)
      clear b6 caw
      go_wp2_with fail
      go_ret
      exact ⟨rfl, B6.out⟩
    by_cases hb : b = 0
    · have haz : (a == 0) = false := beq_eq_false_iff_ne.2 ha
      have hbz : (b == 0) = true := by simpa using hb
      clear ha hb
      go_enter Tryz.func4, Tryz.ntmps4
      go_wp2_with fail
      (with_reducible refine (c9 w hE0).mono ?_)
      rintro e w1 ⟨rfl, b1⟩
      have AP := At3.new w1 1 P ⟨#[]⟩
      have hba := below_alloc w1 (.cells #[.int .i64 1, .int .i64 P, .string ⟨#[]⟩] 23)
      have B1 := Lib.hid (below_to b1 hba)
      have HA := Lib.hid AP
      clear b1 hba AP
      go_wp2_with fail
      generalize hW5 : (w1.alloc (.cells #[.int .i64 1, .int .i64 P, .string ⟨#[]⟩] 23)) = W5 at *
      clear hW5
      refine wp_region_held_drew (S := fun w' => Below W5.heap.size W5 w') (by kernel_rfl) ((Below.refl _ _).drew) (fun hHeld => ?_)
      refine held_take (i := 0) (v := ?_) rfl (by kernel_rfl) (by kernel_rfl) (by kernel_rfl) (fun _ _ _ h => h) (by rfl) hHeld ?_ ?_
      rotate_left
      · intro wz hSz; obtain ⟨-, q0, q1, q2⟩ := HA.out.later hSz; go_simp; try with_reducible rfl
      simp only [Act.put, List.setIfInBounds_toArray, List.set_cons_zero, List.set_cons_succ]
      refine held_take (i := 1) (v := ?_) rfl (by kernel_rfl) (by kernel_rfl) (by kernel_rfl) (fun _ _ _ h => h) (by rfl) hHeld ?_ ?_
      rotate_left
      · intro wz hSz; go_simp; try with_reducible rfl
      simp only [Act.put, List.setIfInBounds_toArray, List.set_cons_zero, List.set_cons_succ]
      refine held_take (i := 2) (v := ?_) rfl (by kernel_rfl) (by kernel_rfl) (by kernel_rfl) (fun _ _ _ h => h) (by rfl) hHeld ?_ ?_
      rotate_left
      · intro wz hSz; go_simp; try with_reducible rfl
      simp only [Act.put, List.setIfInBounds_toArray, List.set_cons_zero, List.set_cons_succ]
      refine held_call (i := 3) (by kernel_rfl) rfl (by rfl) (by go_simp; try with_reducible rfl) (c9b _ (HE.out.later (below_to B1.out hHeld))) ?_
      rintro e wy ⟨rfl, hy⟩
      refine ⟨_, rfl, below_to hHeld hy, ?_⟩
      replace hHeld := below_to hHeld hy
      simp only [Act.put, List.setIfInBounds_toArray, List.set_cons_zero, List.set_cons_succ]
      refine held_take (i := 4) (v := .bool false) rfl (by kernel_rfl) (by kernel_rfl) (by kernel_rfl) (fun _ _ _ h => h) (by rfl) hHeld ?_ ?_
      · intro wz hSz; (have ye := same_no 1 P ⟨#[]⟩ wz; go_simp; first | done | rfl | exact ye)
      simp only [Act.put, List.setIfInBounds_toArray, List.set_cons_zero, List.set_cons_succ]
      refine wpAnyH_done (by kernel_rfl) ?_ _
      obtain ⟨-, p0, p1, p2⟩ := HA.out.later hHeld
      have caw := evawake_any _ (HE.out.later (below_to B1.out hHeld))
      have BH := Lib.hid (below_to B1.out hHeld)
      have ye := same_yes 1 P ⟨#[]⟩
      clear hHeld
      go_wp2_with fail
      (with_reducible refine caw.mono ?_)
      rintro e w6 ⟨rfl, b6⟩
      have B6 := Lib.hid (below_to BH.out b6)
      clear b6 caw
      go_wp2_with fail
      go_ret
      exact ⟨rfl, B6.out⟩
    have haz : (a == 0) = false := beq_eq_false_iff_ne.2 ha
    have hbz : (b == 0) = false := beq_eq_false_iff_ne.2 hb
    have hbn : ¬ b = 0 := hb
    have hQ : P.tdiv b = a := by rw [← hP]; exact Int.mul_tdiv_cancel _ hb
    have hwr : IntKind.i64.wrap a = a := i64_id ⟨a0, a1⟩
    have haa : (a == a) = true := by simp
    have h1 : (a == -1) = false ∨ (a == -1) = true ∧ (b == -9223372036854775808) = false := by
      by_cases h : a = -1
      · refine .inr ⟨by simpa using h, beq_eq_false_iff_ne.2 fun e => ?_⟩
        rw [h, e] at hP
        omega
      · exact .inl (beq_eq_false_iff_ne.2 h)
    have h2 : (b == -1) = false ∨ (b == -1) = true ∧ (a == -9223372036854775808) = false := by
      by_cases h : b = -1
      · refine .inr ⟨by simpa using h, beq_eq_false_iff_ne.2 fun e => ?_⟩
        rw [h, e] at hP
        omega
      · exact .inl (beq_eq_false_iff_ne.2 h)
    rcases h1 with h1 | ⟨h1, h1'⟩ <;> rcases h2 with h2 | ⟨h2, h2'⟩
    all_goals
      go_enter Tryz.func4, Tryz.ntmps4
      go_wp2_with fail
      (with_reducible refine (c9 w hE0).mono ?_)
      rintro e w1 ⟨rfl, b1⟩
      have AP := At3.new w1 1 P ⟨#[]⟩
      have hba := below_alloc w1 (.cells #[.int .i64 1, .int .i64 P, .string ⟨#[]⟩] 23)
      have B1 := Lib.hid (below_to b1 hba)
      have HA := Lib.hid AP
      clear b1 hba AP
      go_wp2_with fail
      generalize hW5 : (w1.alloc (.cells #[.int .i64 1, .int .i64 P, .string ⟨#[]⟩] 23)) = W5 at *
      clear hW5
      refine wp_region_held_drew (S := fun w' => Below W5.heap.size W5 w') (by kernel_rfl) ((Below.refl _ _).drew) (fun hHeld => ?_)
      refine held_take (i := 0) (v := ?_) rfl (by kernel_rfl) (by kernel_rfl) (by kernel_rfl) (fun _ _ _ h => h) (by rfl) hHeld ?_ ?_
      rotate_left
      · intro wz hSz; obtain ⟨-, q0, q1, q2⟩ := HA.out.later hSz; go_simp; try with_reducible rfl
      simp only [Act.put, List.setIfInBounds_toArray, List.set_cons_zero, List.set_cons_succ]
      refine held_take (i := 1) (v := ?_) rfl (by kernel_rfl) (by kernel_rfl) (by kernel_rfl) (fun _ _ _ h => h) (by rfl) hHeld ?_ ?_
      rotate_left
      · intro wz hSz; go_simp; try with_reducible rfl
      simp only [Act.put, List.setIfInBounds_toArray, List.set_cons_zero, List.set_cons_succ]
      refine held_take (i := 2) (v := ?_) rfl (by kernel_rfl) (by kernel_rfl) (by kernel_rfl) (fun _ _ _ h => h) (by rfl) hHeld ?_ ?_
      rotate_left
      · intro wz hSz; go_simp; try with_reducible rfl
      simp only [Act.put, List.setIfInBounds_toArray, List.set_cons_zero, List.set_cons_succ]
      refine held_call (i := 3) (by kernel_rfl) rfl (by rfl) (by go_simp; try with_reducible rfl) (c9b _ (HE.out.later (below_to B1.out hHeld))) ?_
      rintro e wy ⟨rfl, hy⟩
      refine ⟨_, rfl, below_to hHeld hy, ?_⟩
      replace hHeld := below_to hHeld hy
      simp only [Act.put, List.setIfInBounds_toArray, List.set_cons_zero, List.set_cons_succ]
      refine held_take (i := 4) (v := .bool false) rfl (by kernel_rfl) (by kernel_rfl) (by kernel_rfl) (fun _ _ _ h => h) (by rfl) hHeld ?_ ?_
      · intro wz hSz; (have ye := same_no 1 P ⟨#[]⟩ wz; go_simp; first | done | rfl | exact ye)
      simp only [Act.put, List.setIfInBounds_toArray, List.set_cons_zero, List.set_cons_succ]
      refine wpAnyH_done (by kernel_rfl) ?_ _
      obtain ⟨-, p0, p1, p2⟩ := HA.out.later hHeld
      have caw := evawake_any _ (HE.out.later (below_to B1.out hHeld))
      have BH := Lib.hid (below_to B1.out hHeld)
      have ye := same_yes 1 P ⟨#[]⟩
      clear hHeld
      go_wp2_with fail
      (with_reducible refine caw.mono ?_)
      rintro e w6 ⟨rfl, b6⟩
      have B6 := Lib.hid (below_to BH.out b6)
      clear b6 caw
      go_wp2_with fail
      go_ret
      exact ⟨rfl, B6.out⟩
  · have ha : a ≠ 0 := fun e => hr (by rw [e, Int.zero_mul]; decide)
    have hb : b ≠ 0 := fun e => hr (by rw [e, Int.mul_zero]; decide)
    have c9 := two_val (op := 9) (K := 4) (n := 1) (s := []) (by rw [op_mul]; exact nv_out hr) (by decide) (by decide) a0 a1 b0 b1
    have c9b := two_val (op := 9) (K := 4) (n := 1) (s := []) (by rw [op_mul, Int.mul_comm]; exact nv_out hr) (by decide) (by decide) b0 b1 a0 a1
    have haz : (a == 0) = false := beq_eq_false_iff_ne.2 ha
    have hbz : (b == 0) = false := beq_eq_false_iff_ne.2 hb
    have hbn : ¬ b = 0 := hb
    by_cases h1 : a = -1 ∧ b = -9223372036854775808
    · have h1a : (a == -1) = true := by simpa using h1.1
      have h1b : (b == -9223372036854775808) = true := by simpa using h1.2
      clear h1 hr ha hb
      go_enter Tryz.func4, Tryz.ntmps4
      go_wp2_with fail
      (with_reducible refine (c9 w hE0).mono ?_)
      rintro e w1 ⟨rfl, b1⟩
      have AP := At3.new w1 4 1 ⟨#[]⟩
      have hba := below_alloc w1 (.cells #[.int .i64 4, .int .i64 1, .string ⟨#[]⟩] 23)
      have B1 := Lib.hid (below_to b1 hba)
      have HA := Lib.hid AP
      clear b1 hba AP
      go_wp2_with fail
      generalize hW5 : (w1.alloc (.cells #[.int .i64 4, .int .i64 1, .string ⟨#[]⟩] 23)) = W5 at *
      clear hW5
      refine wp_region_held_drew (S := fun w' => Below W5.heap.size W5 w') (by kernel_rfl) ((Below.refl _ _).drew) (fun hHeld => ?_)
      refine held_take (i := 0) (v := ?_) rfl (by kernel_rfl) (by kernel_rfl) (by kernel_rfl) (fun _ _ _ h => h) (by rfl) hHeld ?_ ?_
      rotate_left
      · intro wz hSz; obtain ⟨-, q0, q1, q2⟩ := HA.out.later hSz; go_simp; try with_reducible rfl
      simp only [Act.put, List.setIfInBounds_toArray, List.set_cons_zero, List.set_cons_succ]
      refine held_take (i := 1) (v := ?_) rfl (by kernel_rfl) (by kernel_rfl) (by kernel_rfl) (fun _ _ _ h => h) (by rfl) hHeld ?_ ?_
      rotate_left
      · intro wz hSz; go_simp; try with_reducible rfl
      simp only [Act.put, List.setIfInBounds_toArray, List.set_cons_zero, List.set_cons_succ]
      refine held_take (i := 2) (v := ?_) rfl (by kernel_rfl) (by kernel_rfl) (by kernel_rfl) (fun _ _ _ h => h) (by rfl) hHeld ?_ ?_
      rotate_left
      · intro wz hSz; go_simp; try with_reducible rfl
      simp only [Act.put, List.setIfInBounds_toArray, List.set_cons_zero, List.set_cons_succ]
      refine held_call (i := 3) (by kernel_rfl) rfl (by rfl) (by go_simp; try with_reducible rfl) (c9b _ (HE.out.later (below_to B1.out hHeld))) ?_
      rintro e wy ⟨rfl, hy⟩
      refine ⟨_, rfl, below_to hHeld hy, ?_⟩
      replace hHeld := below_to hHeld hy
      simp only [Act.put, List.setIfInBounds_toArray, List.set_cons_zero, List.set_cons_succ]
      refine held_take (i := 4) (v := .bool false) rfl (by kernel_rfl) (by kernel_rfl) (by kernel_rfl) (fun _ _ _ h => h) (by rfl) hHeld ?_ ?_
      · intro wz hSz; (have ye := same_no 4 1 ⟨#[]⟩ wz; go_simp; first | done | rfl | exact ye)
      simp only [Act.put, List.setIfInBounds_toArray, List.set_cons_zero, List.set_cons_succ]
      refine wpAnyH_done (by kernel_rfl) ?_ _
      obtain ⟨-, p0, p1, p2⟩ := HA.out.later hHeld
      have caw := evawake_any _ (HE.out.later (below_to B1.out hHeld))
      have BH := Lib.hid (below_to B1.out hHeld)
      have ye := same_yes 4 1 ⟨#[]⟩
      clear hHeld
      go_wp2_with fail
      (with_reducible refine caw.mono ?_)
      rintro e w6 ⟨rfl, b6⟩
      have B6 := Lib.hid (below_to BH.out b6)
      clear b6 caw
      go_wp2_with fail
      go_ret
      exact ⟨rfl, B6.out⟩
    have h1 : (a == -1) = false ∨ (a == -1) = true ∧ (b == -9223372036854775808) = false := by
      by_cases h : a = -1
      · exact .inr ⟨by simpa using h, beq_eq_false_iff_ne.2 fun e => h1 ⟨h, e⟩⟩
      · exact .inl (beq_eq_false_iff_ne.2 h)
    by_cases h2 : b = -1 ∧ a = -9223372036854775808
    · have h2a : (b == -1) = true := by simpa using h2.1
      have h2b : (a == -9223372036854775808) = true := by simpa using h2.2
      clear h2 hr ha hb
      rcases h1 with h1 | ⟨h1, h1'⟩
      all_goals
        go_enter Tryz.func4, Tryz.ntmps4
        go_wp2_with fail
        (with_reducible refine (c9 w hE0).mono ?_)
        rintro e w1 ⟨rfl, b1⟩
        have AP := At3.new w1 4 1 ⟨#[]⟩
        have hba := below_alloc w1 (.cells #[.int .i64 4, .int .i64 1, .string ⟨#[]⟩] 23)
        have B1 := Lib.hid (below_to b1 hba)
        have HA := Lib.hid AP
        clear b1 hba AP
        go_wp2_with fail
        generalize hW5 : (w1.alloc (.cells #[.int .i64 4, .int .i64 1, .string ⟨#[]⟩] 23)) = W5 at *
        clear hW5
        refine wp_region_held_drew (S := fun w' => Below W5.heap.size W5 w') (by kernel_rfl) ((Below.refl _ _).drew) (fun hHeld => ?_)
        refine held_take (i := 0) (v := ?_) rfl (by kernel_rfl) (by kernel_rfl) (by kernel_rfl) (fun _ _ _ h => h) (by rfl) hHeld ?_ ?_
        rotate_left
        · intro wz hSz; obtain ⟨-, q0, q1, q2⟩ := HA.out.later hSz; go_simp; try with_reducible rfl
        simp only [Act.put, List.setIfInBounds_toArray, List.set_cons_zero, List.set_cons_succ]
        refine held_take (i := 1) (v := ?_) rfl (by kernel_rfl) (by kernel_rfl) (by kernel_rfl) (fun _ _ _ h => h) (by rfl) hHeld ?_ ?_
        rotate_left
        · intro wz hSz; go_simp; try with_reducible rfl
        simp only [Act.put, List.setIfInBounds_toArray, List.set_cons_zero, List.set_cons_succ]
        refine held_take (i := 2) (v := ?_) rfl (by kernel_rfl) (by kernel_rfl) (by kernel_rfl) (fun _ _ _ h => h) (by rfl) hHeld ?_ ?_
        rotate_left
        · intro wz hSz; go_simp; try with_reducible rfl
        simp only [Act.put, List.setIfInBounds_toArray, List.set_cons_zero, List.set_cons_succ]
        refine held_call (i := 3) (by kernel_rfl) rfl (by rfl) (by go_simp; try with_reducible rfl) (c9b _ (HE.out.later (below_to B1.out hHeld))) ?_
        rintro e wy ⟨rfl, hy⟩
        refine ⟨_, rfl, below_to hHeld hy, ?_⟩
        replace hHeld := below_to hHeld hy
        simp only [Act.put, List.setIfInBounds_toArray, List.set_cons_zero, List.set_cons_succ]
        refine held_take (i := 4) (v := .bool false) rfl (by kernel_rfl) (by kernel_rfl) (by kernel_rfl) (fun _ _ _ h => h) (by rfl) hHeld ?_ ?_
        · intro wz hSz; (have ye := same_no 4 1 ⟨#[]⟩ wz; go_simp; first | done | rfl | exact ye)
        simp only [Act.put, List.setIfInBounds_toArray, List.set_cons_zero, List.set_cons_succ]
        refine wpAnyH_done (by kernel_rfl) ?_ _
        obtain ⟨-, p0, p1, p2⟩ := HA.out.later hHeld
        have caw := evawake_any _ (HE.out.later (below_to B1.out hHeld))
        have BH := Lib.hid (below_to B1.out hHeld)
        have ye := same_yes 4 1 ⟨#[]⟩
        clear hHeld
        go_wp2_with fail
        (with_reducible refine caw.mono ?_)
        rintro e w6 ⟨rfl, b6⟩
        have B6 := Lib.hid (below_to BH.out b6)
        clear b6 caw
        go_wp2_with fail
        go_ret
        exact ⟨rfl, B6.out⟩
    have hne : ¬ wrap64 ((wrap64 (a * b)).tdiv b) = a := fun h => hr (mul_in ⟨a0, a1⟩ ⟨b0, b1⟩ hb (fun h => h2 ⟨h.2, h.1⟩) h).1
    obtain ⟨W, hW⟩ : ∃ W, wrap64 (a * b) = W := ⟨_, rfl⟩
    rw [hW] at hne
    obtain ⟨Q, hQ⟩ : ∃ Q, IntKind.i64.wrap (W.tdiv b) = Q := ⟨_, rfl⟩
    rw [← i64_w, hQ] at hne
    have hqa : (Q == a) = false := beq_eq_false_iff_ne.2 hne
    have h2 : (b == -1) = false ∨ (b == -1) = true ∧ (a == -9223372036854775808) = false := by
      by_cases h : b = -1
      · exact .inr ⟨by simpa using h, beq_eq_false_iff_ne.2 fun e => h2 ⟨h, e⟩⟩
      · exact .inl (beq_eq_false_iff_ne.2 h)
    clear hr ha hb hne
    rcases h1 with h1 | ⟨h1, h1'⟩ <;> rcases h2 with h2 | ⟨h2, h2'⟩
    all_goals
      go_enter Tryz.func4, Tryz.ntmps4
      go_wp2_with fail
      (with_reducible refine (c9 w hE0).mono ?_)
      rintro e w1 ⟨rfl, b1⟩
      have AP := At3.new w1 4 1 ⟨#[]⟩
      have hba := below_alloc w1 (.cells #[.int .i64 4, .int .i64 1, .string ⟨#[]⟩] 23)
      have B1 := Lib.hid (below_to b1 hba)
      have HA := Lib.hid AP
      clear b1 hba AP
      go_wp2_with fail
      generalize hW5 : (w1.alloc (.cells #[.int .i64 4, .int .i64 1, .string ⟨#[]⟩] 23)) = W5 at *
      clear hW5
      refine wp_region_held_drew (S := fun w' => Below W5.heap.size W5 w') (by kernel_rfl) ((Below.refl _ _).drew) (fun hHeld => ?_)
      refine held_take (i := 0) (v := ?_) rfl (by kernel_rfl) (by kernel_rfl) (by kernel_rfl) (fun _ _ _ h => h) (by rfl) hHeld ?_ ?_
      rotate_left
      · intro wz hSz; obtain ⟨-, q0, q1, q2⟩ := HA.out.later hSz; go_simp; try with_reducible rfl
      simp only [Act.put, List.setIfInBounds_toArray, List.set_cons_zero, List.set_cons_succ]
      refine held_take (i := 1) (v := ?_) rfl (by kernel_rfl) (by kernel_rfl) (by kernel_rfl) (fun _ _ _ h => h) (by rfl) hHeld ?_ ?_
      rotate_left
      · intro wz hSz; go_simp; try with_reducible rfl
      simp only [Act.put, List.setIfInBounds_toArray, List.set_cons_zero, List.set_cons_succ]
      refine held_take (i := 2) (v := ?_) rfl (by kernel_rfl) (by kernel_rfl) (by kernel_rfl) (fun _ _ _ h => h) (by rfl) hHeld ?_ ?_
      rotate_left
      · intro wz hSz; go_simp; try with_reducible rfl
      simp only [Act.put, List.setIfInBounds_toArray, List.set_cons_zero, List.set_cons_succ]
      refine held_call (i := 3) (by kernel_rfl) rfl (by rfl) (by go_simp; try with_reducible rfl) (c9b _ (HE.out.later (below_to B1.out hHeld))) ?_
      rintro e wy ⟨rfl, hy⟩
      refine ⟨_, rfl, below_to hHeld hy, ?_⟩
      replace hHeld := below_to hHeld hy
      simp only [Act.put, List.setIfInBounds_toArray, List.set_cons_zero, List.set_cons_succ]
      refine held_take (i := 4) (v := .bool false) rfl (by kernel_rfl) (by kernel_rfl) (by kernel_rfl) (fun _ _ _ h => h) (by rfl) hHeld ?_ ?_
      · intro wz hSz; (have ye := same_no 4 1 ⟨#[]⟩ wz; go_simp; first | done | rfl | exact ye)
      simp only [Act.put, List.setIfInBounds_toArray, List.set_cons_zero, List.set_cons_succ]
      refine wpAnyH_done (by kernel_rfl) ?_ _
      obtain ⟨-, p0, p1, p2⟩ := HA.out.later hHeld
      have caw := evawake_any _ (HE.out.later (below_to B1.out hHeld))
      have BH := Lib.hid (below_to B1.out hHeld)
      have ye := same_yes 4 1 ⟨#[]⟩
      clear hHeld
      go_wp2_with fail
      (with_reducible refine caw.mono ?_)
      rintro e w6 ⟨rfl, b6⟩
      have B6 := Lib.hid (below_to BH.out b6)
      clear b6 caw
      go_wp2_with fail
      go_ret
      exact ⟨rfl, B6.out⟩
end Go.Proofs.YtepppianhafdjaaGreatDoor
