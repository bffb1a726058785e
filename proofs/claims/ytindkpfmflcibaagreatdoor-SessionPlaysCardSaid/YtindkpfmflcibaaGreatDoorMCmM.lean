/- Plain mathematics of commands' bytes: what is put is read, what is read was put. -/
import Derived.Test.YtindkpfmflcibaaGreatDoorMRpM
import Derived.Test.YtindkpfmflcibaaGreatDoorMNmLen
namespace Go.Proofs.YtindkpfmflcibaaGreatDoor
open Go.RowKit

/-- A command. -/
structure Cm where
  kd : Int
  se : Int
  sq : Int
  f : ByteArray
  ve : Int
  K : Int
  n : Int
  s : ByteArray
structure Cm.In (c : Cm) : Prop where
  d0 : -9223372036854775808 ≤ c.kd
  d1 : c.kd ≤ 9223372036854775807
  e0 : -9223372036854775808 ≤ c.se
  e1 : c.se ≤ 9223372036854775807
  q0 : -9223372036854775808 ≤ c.sq
  q1 : c.sq ≤ 9223372036854775807
  v0 : -9223372036854775808 ≤ c.ve
  v1 : c.ve ≤ 9223372036854775807
  K0 : -9223372036854775808 ≤ c.K
  K1 : c.K ≤ 9223372036854775807
  n0 : -9223372036854775808 ≤ c.n
  n1 : c.n ≤ 9223372036854775807
def Cm.zero : Cm := ⟨0, 0, 0, txt [], 0, 0, 0, txt []⟩
/-- May it be? By its kind. -/
def cmd1 (c : Cm) : Bool := (c.se == 0 && c.sq == 0) && (decide (c.f.data.toList = []) && c.ve == 0) && (c.K == 0 && c.n == 0 && decide (c.s.data.toList = []))
def cmd2 (c : Cm) : Bool := (wi 1 c.se && wi 1 c.sq) && (nameB c.f.data.toList && (wi 0 c.ve && checkB c.K c.n c.s.data.toList))
def cmd3 (c : Cm) : Bool := (wi 1 c.se && wi 1 c.sq) && ((decide (c.f.data.toList = []) && c.ve == 0) && (c.K == 0 && c.n == 0 && decide (c.s.data.toList = [])))
def cmd4 (c : Cm) : Bool := (wi 1 c.se && wi 1 c.sq) && (nameB c.f.data.toList && (c.ve == 0 && (c.K == 0 && c.n == 0 && decide (c.s.data.toList = []))))
def cmdB (c : Cm) : Bool := if c.kd = 1 then cmd1 c else if c.kd = 2 then cmd2 c else if c.kd = 3 then cmd3 c else if c.kd = 4 then cmd4 c else false
theorem cmdB_1 {c : Cm} (h : c.kd = 1) : cmdB c = cmd1 c := by unfold cmdB; rw [if_pos h]
theorem cmdB_2 {c : Cm} (h : c.kd = 2) : cmdB c = cmd2 c := by unfold cmdB; rw [if_neg (by omega), if_pos h]
theorem cmdB_3 {c : Cm} (h : c.kd = 3) : cmdB c = cmd3 c := by unfold cmdB; rw [if_neg (by omega), if_neg (by omega), if_pos h]
theorem cmdB_4 {c : Cm} (h : c.kd = 4) : cmdB c = cmd4 c := by unfold cmdB; rw [if_neg (by omega), if_neg (by omega), if_neg (by omega), if_pos h]
theorem cmdB_else {c : Cm} (h : ¬ (c.kd = 1 ∨ c.kd = 2 ∨ c.kd = 3 ∨ c.kd = 4)) : cmdB c = false := by unfold cmdB; rw [if_neg (by omega), if_neg (by omega), if_neg (by omega), if_neg (by omega)]
theorem cmdB_kind {c : Cm} (h : cmdB c = true) : c.kd = 1 ∨ c.kd = 2 ∨ c.kd = 3 ∨ c.kd = 4 := by
  refine Classical.byContradiction fun hn => ?_
  rw [cmdB_else hn] at h; cases h
theorem txt_nil {s : ByteArray} (h : s.data.toList = []) : s = txt [] := by rw [← list_txt s, h]

/-- Its bytes, by its kind. -/
def putC (c : Cm) : List UInt8 :=
  if c.kd = 1 then putI 1
  else if c.kd = 3 then putI 3 ++ putI c.se ++ putI c.sq
  else if c.kd = 4 then putI 4 ++ putI c.se ++ putI c.sq ++ putT c.f.data.toList
  else if c.kd = 2 then putI 2 ++ putI c.se ++ putI c.sq ++ putT c.f.data.toList ++ putI c.ve ++ putV c.K c.n c.s.data.toList
  else putI c.kd
theorem putC_1 {c : Cm} (h : c.kd = 1) : putC c = putI 1 := by unfold putC; rw [if_pos h]
theorem putC_3 {c : Cm} (h : c.kd = 3) : putC c = putI 3 ++ putI c.se ++ putI c.sq := by unfold putC; rw [if_neg (by omega), if_pos h]
theorem putC_4 {c : Cm} (h : c.kd = 4) : putC c = putI 4 ++ putI c.se ++ putI c.sq ++ putT c.f.data.toList := by unfold putC; rw [if_neg (by omega), if_neg (by omega), if_pos h]
theorem putC_2 {c : Cm} (h : c.kd = 2) : putC c = putI 2 ++ putI c.se ++ putI c.sq ++ putT c.f.data.toList ++ putI c.ve ++ putV c.K c.n c.s.data.toList := by unfold putC; rw [if_neg (by omega), if_neg (by omega), if_neg (by omega), if_pos h]
theorem putC_else {c : Cm} (h : ¬ (c.kd = 1 ∨ c.kd = 2 ∨ c.kd = 3 ∨ c.kd = 4)) : putC c = putI c.kd := by unfold putC; rw [if_neg (by omega), if_neg (by omega), if_neg (by omega), if_neg (by omega)]

/-- What is read: of a command of each kind. -/
def rd1 (s : St) : Cm × St := (⟨1, 0, 0, txt [], 0, 0, 0, txt []⟩, s)
def rd3 (s : St) : Cm × St := (⟨3, (stI s).1, (stI (stI s).2).1, txt [], 0, 0, 0, txt []⟩, (stI (stI s).2).2)
def rd4 (s : St) : Cm × St := (⟨4, (stI s).1, (stI (stI s).2).1, txt (stT 24 (stI (stI s).2).2).1, 0, 0, 0, txt []⟩, (stT 24 (stI (stI s).2).2).2)
def rd2 (s : St) : Cm × St :=
  (⟨2, (stI s).1, (stI (stI s).2).1, txt (stT 24 (stI (stI s).2).2).1, (stI (stT 24 (stI (stI s).2).2).2).1, (getS (stI (stT 24 (stI (stI s).2).2).2).2).1.1, (getS (stI (stT 24 (stI (stI s).2).2).2).2).1.2.1, txt (getS (stI (stT 24 (stI (stI s).2).2).2).2).1.2.2⟩,
    (getS (stI (stT 24 (stI (stI s).2).2).2).2).2)
def rd0 (v : Int) (s : St) : Cm × St := (⟨v, 0, 0, txt [], 0, 0, 0, txt []⟩, s)
def rdC (v : Int) (s : St) : Cm × St := if v = 1 then rd1 s else if v = 2 then rd2 s else if v = 3 then rd3 s else if v = 4 then rd4 s else rd0 v s
def endC (p : Cm × St) : Cm × Bool := if (p.2.2 = false ∧ p.2.1 = []) ∧ cmdB p.1 = true then (p.1, true) else (Cm.zero, false)
theorem endC_yes {p : Cm × St} (h1 : p.2.2 = false) (h2 : p.2.1 = []) (h3 : cmdB p.1 = true) : endC p = (p.1, true) := if_pos ⟨⟨h1, h2⟩, h3⟩
theorem endC_no {p : Cm × St} (h : ¬ ((p.2.2 = false ∧ p.2.1 = []) ∧ cmdB p.1 = true)) : endC p = (Cm.zero, false) := if_neg h
def getC (L : List UInt8) : Cm × Bool := endC (rdC (stI (L, false)).1 (stI (L, false)).2)
theorem rdC_1 (s : St) : rdC 1 s = rd1 s := rfl
theorem rdC_2 (s : St) : rdC 2 s = rd2 s := rfl
theorem rdC_3 (s : St) : rdC 3 s = rd3 s := rfl
theorem rdC_4 (s : St) : rdC 4 s = rd4 s := rfl
theorem rdC_else {v : Int} (h : ¬ (v = 1 ∨ v = 2 ∨ v = 3 ∨ v = 4)) (s : St) : rdC v s = rd0 v s := by unfold rdC; rw [if_neg (by omega), if_neg (by omega), if_neg (by omega), if_neg (by omega)]
/-- Of no kind there is: nothing. -/
theorem getC_else {L : List UInt8} (h : ¬ ((stI (L, false)).1 = 1 ∨ (stI (L, false)).1 = 2 ∨ (stI (L, false)).1 = 3 ∨ (stI (L, false)).1 = 4)) : getC L = (Cm.zero, false) := by
  unfold getC
  rw [rdC_else h]
  refine endC_no fun k => ?_
  have := cmdB_kind k.2
  exact h this

section
variable {c : Cm}
theorem cmd1_eq (h : c.kd = 1) (hc : cmd1 c = true) : c = ⟨1, 0, 0, txt [], 0, 0, 0, txt []⟩ := by
  obtain ⟨kd, se, sq, f, ve, K, n, s⟩ := c
  unfold cmd1 at hc
  simp only [Bool.and_eq_true, beq_iff_eq, decide_eq_true_eq] at hc h
  obtain ⟨⟨⟨h1, h2⟩, h3, h4⟩, ⟨h5, h6⟩, h7⟩ := hc
  subst h1 h2 h4 h5 h6 h
  rw [txt_nil h3, txt_nil h7]
theorem cmd3_eq (h : c.kd = 3) (hc : cmd3 c = true) : c = ⟨3, c.se, c.sq, txt [], 0, 0, 0, txt []⟩ := by
  obtain ⟨kd, se, sq, f, ve, K, n, s⟩ := c
  unfold cmd3 at hc
  simp only [Bool.and_eq_true, beq_iff_eq, decide_eq_true_eq] at hc h
  obtain ⟨-, ⟨h3, h4⟩, ⟨h5, h6⟩, h7⟩ := hc
  subst h4 h5 h6 h
  rw [txt_nil h3, txt_nil h7]
theorem cmd4_eq (h : c.kd = 4) (hc : cmd4 c = true) : c = ⟨4, c.se, c.sq, c.f, 0, 0, 0, txt []⟩ := by
  obtain ⟨kd, se, sq, f, ve, K, n, s⟩ := c
  unfold cmd4 at hc
  simp only [Bool.and_eq_true, beq_iff_eq, decide_eq_true_eq] at hc h
  obtain ⟨-, -, h4, ⟨h5, h6⟩, h7⟩ := hc
  subst h4 h5 h6 h
  rw [txt_nil h7]
theorem cmd4_name (hc : cmd4 c = true) : nameB c.f.data.toList = true := by
  unfold cmd4 at hc; simp only [Bool.and_eq_true] at hc; exact hc.2.1
theorem cmd2_name (hc : cmd2 c = true) : nameB c.f.data.toList = true ∧ checkB c.K c.n c.s.data.toList = true := by
  unfold cmd2 at hc; simp only [Bool.and_eq_true] at hc; exact ⟨hc.2.1, hc.2.2.2⟩
end
/-- What was put is read, whatever stands behind. -/
theorem rdC_put {c : Cm} (hi : c.In) (hc : cmdB c = true) (R : List UInt8) : rdC (stI (putC c ++ R, false)).1 (stI (putC c ++ R, false)).2 = (c, (R, false)) := by
  rcases cmdB_kind hc with h | h | h | h
  · rw [cmdB_1 h] at hc
    rw [putC_1 h, stI_put (by decide) (by decide)]
    dsimp only
    rw [rdC_1]
    unfold rd1
    rw [← cmd1_eq h hc]
  · rw [cmdB_2 h] at hc
    obtain ⟨h24, hk⟩ := cmd2_name hc
    have h24 := nameB_24 h24
    have e0 : stI (putC c ++ R, false) = (2, (putI c.se ++ (putI c.sq ++ (putT c.f.data.toList ++ (putI c.ve ++ (putV c.K c.n c.s.data.toList ++ R)))), false)) := by
      rw [putC_2 h]
      simp only [List.append_assoc]
      exact stI_put (by decide) (by decide) _ false
    have e1 : stI (putI c.se ++ (putI c.sq ++ (putT c.f.data.toList ++ (putI c.ve ++ (putV c.K c.n c.s.data.toList ++ R)))), false) = (c.se, (putI c.sq ++ (putT c.f.data.toList ++ (putI c.ve ++ (putV c.K c.n c.s.data.toList ++ R))), false)) := stI_put hi.e0 hi.e1 _ false
    have e2 : stI (putI c.sq ++ (putT c.f.data.toList ++ (putI c.ve ++ (putV c.K c.n c.s.data.toList ++ R))), false) = (c.sq, (putT c.f.data.toList ++ (putI c.ve ++ (putV c.K c.n c.s.data.toList ++ R)), false)) := stI_put hi.q0 hi.q1 _ false
    have e3 : stT 24 (putT c.f.data.toList ++ (putI c.ve ++ (putV c.K c.n c.s.data.toList ++ R)), false) = (c.f.data.toList, (putI c.ve ++ (putV c.K c.n c.s.data.toList ++ R), false)) := stT_putR _ (by omega) (by omega)
    have e4 : stI (putI c.ve ++ (putV c.K c.n c.s.data.toList ++ R), false) = (c.ve, (putV c.K c.n c.s.data.toList ++ R, false)) := stI_put hi.v0 hi.v1 _ false
    have e5 := getS_put (K := c.K) (n := c.n) (s := c.s.data.toList) R hk (checkB_len hk) hi.K0 hi.K1 hi.n0 hi.n1
    rw [e0]
    dsimp only
    rw [rdC_2]
    unfold rd2
    rw [e1]
    dsimp only
    rw [e2]
    dsimp only
    rw [e3]
    dsimp only
    rw [e4]
    dsimp only
    rw [e5]
    dsimp only
    rw [list_txt, list_txt]
    obtain ⟨kd, se, sq, f, ve, K, n, s⟩ := c
    simp only at h
    rw [h]
  · rw [cmdB_3 h] at hc
    have e0 : stI (putC c ++ R, false) = (3, (putI c.se ++ (putI c.sq ++ R), false)) := by
      rw [putC_3 h]
      simp only [List.append_assoc]
      exact stI_put (by decide) (by decide) _ false
    have e1 : stI (putI c.se ++ (putI c.sq ++ R), false) = (c.se, (putI c.sq ++ R, false)) := stI_put hi.e0 hi.e1 _ false
    have e2 : stI (putI c.sq ++ R, false) = (c.sq, (R, false)) := stI_put hi.q0 hi.q1 _ false
    rw [e0]
    dsimp only
    rw [rdC_3]
    unfold rd3
    rw [e1]
    dsimp only
    rw [e2]
    dsimp only
    rw [← cmd3_eq h hc]
  · rw [cmdB_4 h] at hc
    have h24 := nameB_24 (cmd4_name hc)
    have e0 : stI (putC c ++ R, false) = (4, (putI c.se ++ (putI c.sq ++ (putT c.f.data.toList ++ R)), false)) := by
      rw [putC_4 h]
      simp only [List.append_assoc]
      exact stI_put (by decide) (by decide) _ false
    have e1 : stI (putI c.se ++ (putI c.sq ++ (putT c.f.data.toList ++ R)), false) = (c.se, (putI c.sq ++ (putT c.f.data.toList ++ R), false)) := stI_put hi.e0 hi.e1 _ false
    have e2 : stI (putI c.sq ++ (putT c.f.data.toList ++ R), false) = (c.sq, (putT c.f.data.toList ++ R, false)) := stI_put hi.q0 hi.q1 _ false
    have e3 : stT 24 (putT c.f.data.toList ++ R, false) = (c.f.data.toList, (R, false)) := stT_putR _ (by omega) (by omega)
    rw [e0]
    dsimp only
    rw [rdC_4]
    unfold rd4
    rw [e1]
    dsimp only
    rw [e2]
    dsimp only
    rw [e3]
    dsimp only
    rw [list_txt, ← cmd4_eq h hc]
/-- What is read was put. -/
theorem rdC_read {L : List UInt8} (h : (rdC (stI (L, false)).1 (stI (L, false)).2).2.2 = false) (hk : (stI (L, false)).1 = 1 ∨ (stI (L, false)).1 = 2 ∨ (stI (L, false)).1 = 3 ∨ (stI (L, false)).1 = 4) :
    L = putC (rdC (stI (L, false)).1 (stI (L, false)).2).1 ++ (rdC (stI (L, false)).1 (stI (L, false)).2).2.1 := by
  have h0 := stI_read (s := (L, false))
  dsimp only at h0
  generalize (stI (L, false)).2 = s at *
  rcases hk with hk | hk | hk | hk
  · rw [hk] at h h0 ⊢
    rw [rdC_1] at h ⊢
    rw [putC_1 rfl]
    exact h0 h
  · rw [hk] at h h0 ⊢
    rw [rdC_2] at h ⊢
    obtain ⟨f5, p5⟩ := getS_read (s := (stI (stT 24 (stI (stI s).2).2).2).2) h
    have p4 := stI_read (s := (stT 24 (stI (stI s).2).2).2) f5
    obtain ⟨f3, p3, -⟩ := stT_read (most := 24) (s := (stI (stI s).2).2) (stI_flag f5)
    have p2 := stI_read (s := (stI s).2) f3
    have p1 := stI_read (s := s) (stI_flag f3)
    have p0 := h0 (stI_flag (stI_flag f3))
    rw [putC_2 rfl]
    unfold rd2
    dsimp only
    simp only [List.append_assoc]
    rw [← p5, ← p4, ← p3, ← p2, ← p1, ← p0]
  · rw [hk] at h h0 ⊢
    rw [rdC_3] at h ⊢
    have p2 := stI_read (s := (stI s).2) h
    have p1 := stI_read (s := s) (stI_flag h)
    have p0 := h0 (stI_flag (stI_flag h))
    rw [putC_3 rfl]
    unfold rd3
    dsimp only
    simp only [List.append_assoc]
    rw [← p2, ← p1, ← p0]
  · rw [hk] at h h0 ⊢
    rw [rdC_4] at h ⊢
    obtain ⟨f3, p3, -⟩ := stT_read (most := 24) (s := (stI (stI s).2).2) h
    have p2 := stI_read (s := (stI s).2) f3
    have p1 := stI_read (s := s) (stI_flag f3)
    have p0 := h0 (stI_flag (stI_flag f3))
    rw [putC_4 rfl]
    unfold rd4
    dsimp only
    simp only [List.append_assoc]
    rw [← p3, ← p2, ← p1, ← p0]
theorem getC_put {c : Cm} (hi : c.In) (hc : cmdB c = true) : getC (putC c) = (c, true) := by
  have h := rdC_put hi hc []
  rw [List.append_nil] at h
  unfold getC
  rw [h]
  exact endC_yes rfl rfl hc
/-- With something behind it is none. -/
theorem getC_more {c : Cm} (hi : c.In) (hc : cmdB c = true) (b : UInt8) : (getC (putC c ++ [b])).2 = false := by
  have h := rdC_put hi hc [b]
  unfold getC
  rw [h, endC_no (fun k => by cases k.1.2)]
theorem getC_read {L : List UInt8} (h : (getC L).2 = true) : putC (getC L).1 = L ∧ cmdB (getC L).1 = true := by
  unfold getC at h ⊢
  by_cases hk : ((rdC (stI (L, false)).1 (stI (L, false)).2).2.2 = false ∧ (rdC (stI (L, false)).1 (stI (L, false)).2).2.1 = []) ∧ cmdB (rdC (stI (L, false)).1 (stI (L, false)).2).1 = true
  · have e := endC_yes hk.1.1 hk.1.2 hk.2
    rw [e]
    have hkind : (stI (L, false)).1 = 1 ∨ (stI (L, false)).1 = 2 ∨ (stI (L, false)).1 = 3 ∨ (stI (L, false)).1 = 4 := by
      refine Classical.byContradiction fun hn => ?_
      have := cmdB_kind hk.2
      rw [rdC_else hn] at this
      exact hn this
    have := rdC_read hk.1.1 hkind
    rw [hk.1.2, List.append_nil] at this
    exact ⟨this.symm, hk.2⟩
  · rw [endC_no hk] at h; cases h
/-- What is read has numbers that may be. -/
theorem checkB_n {K n : Int} {s : List UInt8} (h : checkB K n s = true) (h1 : K ≠ 1) : 0 ≤ n ∧ n ≤ 4 := by
  rcases check_kind h with ⟨_, h, _⟩ | ⟨h, _⟩ | ⟨_, h, _⟩ | ⟨_, h, _⟩ | ⟨_, h, h2, _⟩
  · omega
  · exact absurd h h1
  · omega
  · omega
  · omega
theorem rdC_in (v : Int) (hv0 : -9223372036854775808 ≤ v) (hv1 : v ≤ 9223372036854775807) (s : St) : (rdC v s).1.In := by
  have z : ∀ s : St, -9223372036854775808 ≤ (stI s).1 ∧ (stI s).1 ≤ 9223372036854775807 := stI_lo
  have zl : (-9223372036854775808 : Int) ≤ 0 := by decide
  have zh : (0 : Int) ≤ 9223372036854775807 := by decide
  by_cases h1 : v = 1
  · subst h1; rw [rdC_1]; unfold rd1; constructor <;> simp
  by_cases h2 : v = 2
  · subst h2
    rw [rdC_2]
    have g := getS_in (stI (stT 24 (stI (stI s).2).2).2).2
    exact ⟨by show _ ≤ (2 : Int); decide, by show (2 : Int) ≤ _; decide, (z _).1, (z _).2, (z _).1, (z _).2, (z _).1, (z _).2, g.2.2.1, g.2.2.2, g.1, g.2.1⟩
  by_cases h3 : v = 3
  · subst h3
    rw [rdC_3]
    unfold rd3
    exact ⟨by show _ ≤ (3 : Int); decide, by show (3 : Int) ≤ _; decide, (z _).1, (z _).2, (z _).1, (z _).2, zl, zh, zl, zh, zl, zh⟩
  by_cases h4 : v = 4
  · subst h4
    rw [rdC_4]
    unfold rd4
    exact ⟨by show _ ≤ (4 : Int); decide, by show (4 : Int) ≤ _; decide, (z _).1, (z _).2, (z _).1, (z _).2, zl, zh, zl, zh, zl, zh⟩
  rw [rdC_else (by omega)]
  unfold rd0
  exact ⟨hv0, hv1, zl, zh, zl, zh, zl, zh, zl, zh, zl, zh⟩
theorem getC_in (L : List UInt8) : (getC L).1.In := by
  unfold getC
  by_cases hk : ((rdC (stI (L, false)).1 (stI (L, false)).2).2.2 = false ∧ (rdC (stI (L, false)).1 (stI (L, false)).2).2.1 = []) ∧ cmdB (rdC (stI (L, false)).1 (stI (L, false)).2).1 = true
  · rw [endC_yes hk.1.1 hk.1.2 hk.2]
    exact rdC_in _ (stI_lo _).1 (stI_lo _).2 _
  · rw [endC_no hk]; unfold Cm.zero; exact ⟨by decide, by decide, by decide, by decide, by decide, by decide, by decide, by decide, by decide, by decide, by decide, by decide⟩
theorem putC_inj {c d : Cm} (hc : c.In) (hd : d.In) (h1 : cmdB c = true) (h2 : cmdB d = true) (h : putC c = putC d) : c = d := by
  have a := getC_put hc h1
  rw [h, getC_put hd h2] at a
  exact (Prod.mk.inj a).1.symm
/-- Cut it is none. -/
theorem getC_cut {c : Cm} (hi : c.In) (hc : cmdB c = true) (k : Nat) (hk : k < (putC c).length) : (getC ((putC c).take k)).2 = false := by
  cases hb : (getC ((putC c).take k)).2 with
  | false => rfl
  | true =>
    exfalso
    obtain ⟨h1, h2⟩ := getC_read hb
    have h3 := rdC_put (getC_in ((putC c).take k)) h2 ((putC c).drop k)
    rw [h1, List.take_append_drop] at h3
    have h4 := rdC_put hi hc []
    rw [List.append_nil, h3] at h4
    injection h4 with _ h4
    injection h4 with h4 _
    have := congrArg List.length h4
    rw [List.length_drop, List.length_nil] at this
    omega
theorem putC_pos (c : Cm) : 1 ≤ (putC c).length := by
  have h := fun v => putI_pos v
  unfold putC
  split
  · exact h 1
  split
  · have := h 3; simp only [List.length_append]; omega
  split
  · have := h 4; simp only [List.length_append]; omega
  split
  · have := h 2; simp only [List.length_append]; omega
  · exact h _
end Go.Proofs.YtindkpfmflcibaaGreatDoor
