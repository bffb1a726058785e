/- The contracts of layer 14 for any command; palaverlaw14.short. -/
import Derived.Test.YtkbeemkmcnfiiaaGreatDoorMCmOne
import Derived.Test.YtkbeemkmcnfiiaaGreatDoorMCmRC
namespace Go.Proofs.YtkbeemkmcnfiiaaGreatDoor
open Go.RowKit

abbrev Cm.v (c : Cm) : Value := V8 c.kd c.se c.sq c.f c.ve c.K c.n c.s
abbrev Cm.cs (c : Cm) : Array Value := cs8 c.kd c.se c.sq c.f c.ve c.K c.n c.s
abbrev Rp.v (r : Rp) : Value := V5 r.e r.n r.K r.m r.s
abbrev Rp.cs (r : Rp) : Array Value := cs5 r.e r.n r.K r.m r.s
theorem pcheck_any (c : Cm) (hi : c.In) (w : World) (hE : Env7 w) (hfz : c.f.size ≤ 9223372036854775807) (hsz : c.s.size < 9223372036854775807) :
    Calls Tryz.prog 10 #[c.v] w fun e w' => e = .returned (.bool (cmdB c)) ∧ Below w.heap.size w w' := by
  by_cases hk : c.kd = 1 ∨ c.kd = 2 ∨ c.kd = 3 ∨ c.kd = 4
  · obtain ⟨kd, se, sq, f, ve, K, n, s⟩ := c
    dsimp only at hk hfz hsz
    rcases hk with rfl | rfl | rfl | rfl
    · exact pcheck_1 se sq f ve K n s hi w
    · exact pcheck_2 se sq f ve K n s hi w hE hfz hsz
    · exact pcheck_3 se sq f ve K n s hi w
    · exact pcheck_4 se sq f ve K n s hi w hE hfz hsz
  · exact pcheck_else c.kd c.se c.sq c.f c.ve c.K c.n c.s hi w hk
theorem sameW_is {K n : Int} {s : ByteArray} {L m : Int} {t : ByteArray} {B : Bool} (h : (K = L ∧ n = m ∧ s = t) ↔ B = true) : sameW K n s L m t = B := Bool.eq_iff_iff.2 ((sameW_iff _ _ _ _ _ _).trans h)
theorem rcheck_any (c : Cm) (hi : c.In) (w : World) (hE : Env7 w) (hfz : c.f.size ≤ 9223372036854775807) :
    Calls Tryz.prog 11 #[c.v] w fun e w' => e = .returned (.bool (cmdB c)) ∧ Below w.heap.size w w' := by
  by_cases hk : c.kd = 1 ∨ c.kd = 2 ∨ c.kd = 3 ∨ c.kd = 4
  · obtain ⟨kd, se, sq, f, ve, K, n, s⟩ := c
    dsimp only at hk hfz
    rcases hk with rfl | rfl | rfl | rfl
    · have c := rck_1_none se sq f ve K n s hi w
      rwa [sameC_is (B := cmdB ⟨1, se, sq, f, ve, K, n, s⟩) (by rw [cmdB_1 rfl]; simp [cmd1, show (⟨#[]⟩ : ByteArray) = txt [] from rfl, txt_is, and_assoc])] at c
    · rw [cmdB_2 (c := ⟨2, se, sq, f, ve, K, n, s⟩) rfl]
      unfold cmd2
      dsimp only
      cases h1 : wi 1 se with
      | false => exact rck_2_se se sq f ve K n s hi w h1
      | true =>
        cases h2 : wi 1 sq with
        | false => exact rck_2_sq se sq f ve K n s hi w h1 h2
        | true =>
          cases h3 : nameB f.data.toList with
          | false => exact rck_2_nm se sq f ve K n s hi w hE hfz h1 h2 h3
          | true =>
            cases h4 : wi 0 ve with
            | false => exact rck_2_ve se sq f ve K n s hi w hE hfz h1 h2 h3 h4
            | true => exact rck_2_last se sq f ve K n s hi w hE hfz h1 h2 h3 h4
    · rw [cmdB_3 (c := ⟨3, se, sq, f, ve, K, n, s⟩) rfl]
      unfold cmd3
      dsimp only
      cases h1 : wi 1 se with
      | false => exact rck_3_se se sq f ve K n s hi w h1
      | true =>
        cases h2 : wi 1 sq with
        | false => exact rck_3_sq se sq f ve K n s hi w h1 h2
        | true =>
          by_cases h3 : f.data.toList = []
          · rw [decide_eq_true h3]
            obtain rfl := txt_nil h3
            by_cases h4 : ve = 0
            · subst h4
              have c := rck_3_last se sq K n s hi w h1 h2
              rwa [sameW_is (B := (true && true) && ((true && (0 : Int) == 0) && (K == 0 && n == 0 && decide (s.data.toList = [])))) (by simp [show (⟨#[]⟩ : ByteArray) = txt [] from rfl, txt_is, and_assoc])] at c
            · rw [show (ve == 0) = false from beq_eq_false_iff_ne.2 h4]
              exact rck_3_z0 se sq ve K n s hi w h1 h2 h4
          · rw [decide_eq_false h3]
            exact rck_3_em se sq f ve K n s hi w h1 h2 h3
    · rw [cmdB_4 (c := ⟨4, se, sq, f, ve, K, n, s⟩) rfl]
      unfold cmd4
      dsimp only
      cases h1 : wi 1 se with
      | false => exact rck_4_se se sq f ve K n s hi w h1
      | true =>
        cases h2 : wi 1 sq with
        | false => exact rck_4_sq se sq f ve K n s hi w h1 h2
        | true =>
          cases h3 : nameB f.data.toList with
          | false => exact rck_4_nm se sq f ve K n s hi w hE hfz h1 h2 h3
          | true =>
            by_cases h4 : ve = 0
            · subst h4
              have c := rck_4_last se sq f K n s hi w hE hfz h1 h2 h3
              rwa [sameW_is (B := (true && true) && (true && ((0 : Int) == 0 && (K == 0 && n == 0 && decide (s.data.toList = []))))) (by simp [show (⟨#[]⟩ : ByteArray) = txt [] from rfl, txt_is, and_assoc])] at c
            · rw [show (ve == 0) = false from beq_eq_false_iff_ne.2 h4]
              exact rck_4_z0 se sq f ve K n s hi w hE hfz h1 h2 h3 h4
  · rw [cmdB_else hk]
    cases h1 : wi 1 c.se with
    | false => exact rck_0_se c.kd c.se c.sq c.f c.ve c.K c.n c.s hi hk w h1
    | true =>
      cases h2 : wi 1 c.sq with
      | false => exact rck_0_sq c.kd c.se c.sq c.f c.ve c.K c.n c.s hi hk w h1 h2
      | true => exact rck_0_last c.kd c.se c.sq c.f c.ve c.K c.n c.s hi hk w h1 h2
theorem pput_any (c : Cm) (hi : c.In) (hk : c.kd = 1 ∨ c.kd = 2 ∨ c.kd = 3 ∨ c.kd = 4) (w : World) (hf : c.f.data.toList.length ≤ 1000000) (hs : c.s.data.toList.length ≤ 1000000) :
    Calls Tryz.prog 14 #[c.v] w (OwnBytes w (putC c)) := by
  obtain ⟨kd, se, sq, f, ve, K, n, s⟩ := c
  dsimp only at hk hf hs
  rcases hk with rfl | rfl | rfl | rfl
  · exact pput_1 se sq f ve K n s hi w hf hs
  · exact pput_2 se sq f ve K n s hi w hf hs
  · exact pput_3 se sq f ve K n s hi w hf hs
  · exact pput_4 se sq f ve K n s hi w hf hs
def shortB (c : Cm) : Bool := decide (c.f.size ≤ 1000) && decide (c.s.size ≤ 1000)
theorem short_any (c : Cm) (w : World) (hf : c.f.size ≤ maxLen) (hs : c.s.size ≤ maxLen) :
    Calls Tryz.prog 8 #[c.v] w fun e w' => e = .returned (.bool (shortB c)) ∧ Below w.heap.size w w' := by
  obtain ⟨kd, se, sq, f, ve, K, n, s⟩ := c
  dsimp only at hf hs
  unfold maxLen at hf hs
  unfold shortB
  dsimp only
  have b0 := below_alloc w (.cells (cs8 kd se sq f ve K n s) 25)
  by_cases h1 : f.size ≤ 1000
  · have h1z : (f.size : Int) ≤ 1000 := by omega
    by_cases h2 : s.size ≤ 1000
    · have h2z : (s.size : Int) ≤ 1000 := by omega
      rw [decide_eq_true h1, decide_eq_true h2]
      go_enter Tryz.func8, Tryz.ntmps8
      go_wp2
      go_ret
      exact ⟨rfl, b0⟩
    · have h2z : ¬ (s.size : Int) ≤ 1000 := by omega
      rw [decide_eq_true h1, decide_eq_false h2]
      go_enter Tryz.func8, Tryz.ntmps8
      go_wp2
      go_ret
      exact ⟨rfl, b0⟩
  · have h1z : ¬ (f.size : Int) ≤ 1000 := by omega
    rw [decide_eq_false h1]
    go_enter Tryz.func8, Tryz.ntmps8
    go_wp2
    go_ret
    exact ⟨rfl, b0⟩
theorem putC_len (c : Cm) (hi : c.In) (hk : c.kd = 1 ∨ c.kd = 2 ∨ c.kd = 3 ∨ c.kd = 4) (hf : c.f.data.toList.length ≤ 1000000) (hs : c.s.data.toList.length ≤ 1000000) : (putC c).length ≤ 140737488355328 := by
  have a := fun v h0 h1 => putI_ten (v := v) h0 h1
  have a1 := a c.se hi.e0 hi.e1
  have a2 := a c.sq hi.q0 hi.q1
  have a3 := a c.ve hi.v0 hi.v1
  have a4 := a c.K hi.K0 hi.K1
  have a5 := a c.n hi.n0 hi.n1
  have b1 := (putT_len _ hf).2
  have b2 := (putT_len _ hs).2
  have c1 := a 1 (by decide) (by decide)
  have c2 := a 2 (by decide) (by decide)
  have c3 := a 3 (by decide) (by decide)
  have c4 := a 4 (by decide) (by decide)
  rcases hk with h | h | h | h
  · rw [putC_1 h]; omega
  · rw [putC_2 h]; unfold putV; simp only [List.length_append]; omega
  · rw [putC_3 h]; simp only [List.length_append]; omega
  · rw [putC_4 h]; simp only [List.length_append]; omega
end Go.Proofs.YtkbeemkmcnfiiaaGreatDoor
