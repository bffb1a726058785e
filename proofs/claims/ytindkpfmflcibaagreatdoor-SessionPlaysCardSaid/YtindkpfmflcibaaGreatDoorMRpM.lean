/- Plain mathematics of replies' bytes: what is put is read, what is read was put. -/
import Derived.Test.YtindkpfmflcibaaGreatDoorWD
import Derived.Test.YtindkpfmflcibaaGreatDoorWA
namespace Go.Proofs.YtindkpfmflcibaaGreatDoor
open Go.RowKit

/-- The text of some bytes. -/
abbrev txt (L : List UInt8) : ByteArray := ⟨L.toArray⟩
theorem txt_list (L : List UInt8) : (txt L).data.toList = L := rfl
theorem list_txt (s : ByteArray) : txt s.data.toList = s := by cases s; simp [txt]
theorem stI_flag {s : St} (h : (stI s).2.2 = false) : s.2 = false := by
  cases e : rdU 0 0 s.1 with
  | none => rw [stI_none e] at h; cases h
  | some p => obtain ⟨u, R⟩ := p; rw [stI_some e] at h; exact h
theorem stC_flag {most : Int} {s : St} (h : (stC most s).2.2 = false) : s.2 = false ∧ stC most s = stI s ∧ 0 ≤ (stI s).1 ∧ (stI s).1 ≤ most ∧ (stI s).1 ≤ ((stI s).2.1.length : Int) := by
  by_cases hk : 0 ≤ (stI s).1 ∧ (stI s).1 ≤ most ∧ (stI s).1 ≤ ((stI s).2.1.length : Int)
  · have e := stC_yes hk
    rw [e] at h
    exact ⟨stI_flag h, e, hk.1, hk.2.1, hk.2.2⟩
  · rw [stC_no hk] at h; cases h
theorem stI_read {s : St} (h : (stI s).2.2 = false) : s.1 = putI (stI s).1 ++ (stI s).2.1 := by
  obtain ⟨L, f⟩ := s
  exact (stI_back h).1
theorem stT_read {most : Int} {s : St} (h : (stT most s).2.2 = false) : s.2 = false ∧ s.1 = putT (stT most s).1 ++ (stT most s).2.1 ∧ ((stT most s).1.length : Int) ≤ most := by
  have hc : (stC most s).2.2 = false := h
  obtain ⟨h1, h2, h3, h4, h5⟩ := stC_flag hc
  have h6 := stI_read (s := s) (by rw [← h2]; exact hc)
  refine ⟨h1, ?_, ?_⟩
  · unfold stT putT
    rw [h2]
    have hn : (((stI s).2.1.take (stI s).1.toNat).length : Int) = (stI s).1 := by rw [List.length_take]; omega
    rw [hn, List.append_assoc, List.take_append_drop]
    exact h6
  · unfold stT
    rw [h2]
    dsimp only
    rw [List.length_take]; omega
theorem stC_putR {n most : Int} (R : List UInt8) (h0 : -9223372036854775808 ≤ n) (h1 : n ≤ 9223372036854775807) (h : 0 ≤ n ∧ n ≤ most ∧ n ≤ (R.length : Int)) : stC most (putI n ++ R, false) = (n, (R, false)) := by
  have hi := stI_put h0 h1 R false
  rw [stC_yes (by rw [hi]; exact h), hi]
theorem stT_putR {s : List UInt8} {most : Int} (R : List UInt8) (hs : s.length ≤ 140737488351232) (h : (s.length : Int) ≤ most) : stT most (putT s ++ R, false) = (s, (R, false)) := by
  unfold stT putT
  rw [List.append_assoc, stC_putR (s ++ R) (by omega) (by omega) ⟨by omega, h, by rw [List.length_append]; omega⟩]
  simp
/-- A value that may be is read of its bytes. -/
theorem getS_put {K n : Int} {s : List UInt8} (R : List UInt8) (hc : checkB K n s = true) (hs : s.length ≤ 400) (k0 : -9223372036854775808 ≤ K) (k1 : K ≤ 9223372036854775807) (n0 : -9223372036854775808 ≤ n) (n1 : n ≤ 9223372036854775807) :
    getS (putV K n s ++ R, false) = ((K, n, s), (R, false)) := by
  have e1 : stI (putV K n s ++ R, false) = (K, (putI n ++ (putT s ++ R), false)) := by
    unfold putV; rw [List.append_assoc, List.append_assoc]; exact stI_put k0 k1 _ false
  have e2 : stI (putI n ++ (putT s ++ R), false) = (n, (putT s ++ R, false)) := stI_put n0 n1 _ false
  have e3 : stT 400 (putT s ++ R, false) = (s, (R, false)) := stT_putR (s := s) (most := 400) R (by omega) (by omega)
  have := get_yes (s := (putV K n s ++ R, false))
  rw [e1] at this
  dsimp only at this
  rw [e2] at this
  dsimp only at this
  rw [e3] at this
  exact this rfl hc
theorem getS_read {s : St} (h : (getS s).2.2 = false) : s.2 = false ∧ s.1 = putV (getS s).1.1 (getS s).1.2.1 (getS s).1.2.2 ++ (getS s).2.1 := by
  by_cases hk : (stT 400 (stI (stI s).2).2).2.2 = false ∧ checkB (stI s).1 (stI (stI s).2).1 (stT 400 (stI (stI s).2).2).1 = true
  · have e := get_yes hk.1 hk.2
    rw [e]
    obtain ⟨h1, h2, -⟩ := stT_read hk.1
    have h3 := stI_read (s := (stI s).2) h1
    have h4 := stI_flag (s := (stI s).2) h1
    have h5 := stI_read (s := s) h4
    refine ⟨stI_flag h4, ?_⟩
    dsimp only
    unfold putV
    rw [List.append_assoc, List.append_assoc, ← h2, ← h3, ← h5]
  · rw [get_no hk] at h; cases h
theorem checkB_len {K n : Int} {s : List UInt8} (h : checkB K n s = true) : s.length ≤ 400 := by
  rcases check_kind h with ⟨_, _, h⟩ | ⟨_, h⟩ | ⟨_, _, h⟩ | ⟨_, _, _, h⟩ | ⟨_, _, _, h⟩
  · rw [h]; simp
  · rw [h]; simp
  · rw [h]; simp
  · have := count_len (txt s) (by rw [txt_list]; exact h)
    have e : (txt s).size = s.length := by show s.toArray.size = _; simp
    omega
  · rw [h]; simp
theorem checkB_kind {K n : Int} {s : List UInt8} (h : checkB K n s = true) : 0 ≤ K ∧ K ≤ 4 := by
  rcases check_kind h with ⟨h, _⟩ | ⟨h, _⟩ | ⟨h, _⟩ | ⟨h, _⟩ | ⟨h, _⟩ <;> omega

theorem getS_len (s : St) : (getS s).1.2.2.length ≤ 400 := by
  by_cases hk : (stT 400 (stI (stI s).2).2).2.2 = false ∧ checkB (stI s).1 (stI (stI s).2).1 (stT 400 (stI (stI s).2).2).1 = true
  · rw [get_yes hk.1 hk.2]; exact stT_len _
  · rw [get_no hk]; simp
theorem getS_in (s : St) : -9223372036854775808 ≤ (getS s).1.2.1 ∧ (getS s).1.2.1 ≤ 9223372036854775807 ∧ -9223372036854775808 ≤ (getS s).1.1 ∧ (getS s).1.1 ≤ 9223372036854775807 := by
  by_cases hk : (stT 400 (stI (stI s).2).2).2.2 = false ∧ checkB (stI s).1 (stI (stI s).2).1 (stT 400 (stI (stI s).2).2).1 = true
  · rw [get_yes hk.1 hk.2]
    exact ⟨(stI_lo _).1, (stI_lo _).2, (stI_lo _).1, (stI_lo _).2⟩
  · rw [get_no hk]; exact ⟨by decide, by decide, by decide, by decide⟩
/-- A reply. -/
structure Rp where
  e : Int
  n : Int
  K : Int
  m : Int
  s : ByteArray
/-- Its numbers are some. -/
structure Rp.In (r : Rp) : Prop where
  e0 : -9223372036854775808 ≤ r.e
  e1 : r.e ≤ 9223372036854775807
  n0 : -9223372036854775808 ≤ r.n
  n1 : r.n ≤ 9223372036854775807
  K0 : -9223372036854775808 ≤ r.K
  K1 : r.K ≤ 9223372036854775807
  m0 : -9223372036854775808 ≤ r.m
  m1 : r.m ≤ 9223372036854775807
def wi (a n : Int) : Bool := decide (a ≤ n) && decide (n ≤ 1099511627776)
def repB (r : Rp) : Bool := (decide (0 ≤ r.e) && decide (r.e ≤ 24)) && (wi 0 r.n && checkB r.K r.m r.s.data.toList)
def putP (r : Rp) : List UInt8 := putI r.e ++ putI r.n ++ putV r.K r.m r.s.data.toList
def rdP (s : St) : Rp × St := (⟨(stI s).1, (stI (stI s).2).1, (getS (stI (stI s).2).2).1.1, (getS (stI (stI s).2).2).1.2.1, txt (getS (stI (stI s).2).2).1.2.2⟩, (getS (stI (stI s).2).2).2)
def Rp.zero : Rp := ⟨0, 0, 0, 0, txt []⟩
def getP (L : List UInt8) : Rp × Bool := if ((rdP (L, false)).2.2 = false ∧ (rdP (L, false)).2.1 = []) ∧ repB (rdP (L, false)).1 = true then ((rdP (L, false)).1, true) else (Rp.zero, false)
theorem getP_yes {L : List UInt8} (h1 : (rdP (L, false)).2.2 = false) (h2 : (rdP (L, false)).2.1 = []) (h3 : repB (rdP (L, false)).1 = true) : getP L = ((rdP (L, false)).1, true) := if_pos ⟨⟨h1, h2⟩, h3⟩
theorem getP_no {L : List UInt8} (h : ¬ (((rdP (L, false)).2.2 = false ∧ (rdP (L, false)).2.1 = []) ∧ repB (rdP (L, false)).1 = true)) : getP L = (Rp.zero, false) := if_neg h
theorem repB_check {r : Rp} (h : repB r = true) : checkB r.K r.m r.s.data.toList = true := by
  unfold repB at h; simp only [Bool.and_eq_true] at h; exact h.2.2
theorem rdP_put {r : Rp} (hr : r.In) (hc : repB r = true) (R : List UInt8) : rdP (putP r ++ R, false) = (r, (R, false)) := by
  have hk := repB_check hc
  have e1 : stI (putP r ++ R, false) = (r.e, (putI r.n ++ (putV r.K r.m r.s.data.toList ++ R), false)) := by
    unfold putP; rw [List.append_assoc, List.append_assoc]; exact stI_put hr.e0 hr.e1 _ false
  have e2 : stI (putI r.n ++ (putV r.K r.m r.s.data.toList ++ R), false) = (r.n, (putV r.K r.m r.s.data.toList ++ R, false)) := stI_put hr.n0 hr.n1 _ false
  have e3 := getS_put (K := r.K) (n := r.m) (s := r.s.data.toList) R hk (checkB_len hk) hr.K0 hr.K1 hr.m0 hr.m1
  unfold rdP
  rw [e1]
  dsimp only
  rw [e2]
  dsimp only
  rw [e3]
theorem rdP_read {L : List UInt8} (h : (rdP (L, false)).2.2 = false) : L = putP (rdP (L, false)).1 ++ (rdP (L, false)).2.1 := by
  obtain ⟨h1, h2⟩ := getS_read (s := (stI (stI (L, false)).2).2) h
  have h3 := stI_read (s := (stI (L, false)).2) h1
  have h4 := stI_flag (s := (stI (L, false)).2) h1
  have h5 : L = _ := stI_read (s := (L, false)) h4
  unfold rdP putP
  dsimp only
  rw [List.append_assoc, List.append_assoc, ← h2, ← h3, ← h5]
/-- What was put is read back. -/
theorem getP_put {r : Rp} (hr : r.In) (hc : repB r = true) : getP (putP r) = (r, true) := by
  have h := rdP_put hr hc []
  rw [List.append_nil] at h
  have := getP_yes (L := putP r) (by rw [h]) (by rw [h]) (by rw [h]; exact hc)
  rw [this, h]
/-- What is read was put. -/
theorem getP_read {L : List UInt8} (h : (getP L).2 = true) : putP (getP L).1 = L ∧ repB (getP L).1 = true := by
  by_cases hk : ((rdP (L, false)).2.2 = false ∧ (rdP (L, false)).2.1 = []) ∧ repB (rdP (L, false)).1 = true
  · have e := getP_yes hk.1.1 hk.1.2 hk.2
    rw [e]
    have := rdP_read hk.1.1
    rw [hk.1.2, List.append_nil] at this
    exact ⟨this.symm, hk.2⟩
  · rw [getP_no hk] at h; cases h
theorem putP_inj {r q : Rp} (hr : r.In) (hq : q.In) (hc : repB r = true) (hd : repB q = true) (h : putP r = putP q) : r = q := by
  have a := getP_put hr hc
  rw [h, getP_put hq hd] at a
  exact (Prod.mk.inj a).1.symm
theorem getP_in (L : List UInt8) : (getP L).1.In := by
  have z : ∀ s : St, -9223372036854775808 ≤ (stI s).1 ∧ (stI s).1 ≤ 9223372036854775807 := stI_lo
  by_cases hk : ((rdP (L, false)).2.2 = false ∧ (rdP (L, false)).2.1 = []) ∧ repB (rdP (L, false)).1 = true
  · rw [getP_yes hk.1.1 hk.1.2 hk.2]
    have g := getS_in (stI (stI (L, false)).2).2
    exact ⟨(z _).1, (z _).2, (z _).1, (z _).2, g.2.2.1, g.2.2.2, g.1, g.2.1⟩
  · rw [getP_no hk]; unfold Rp.zero; exact ⟨by decide, by decide, by decide, by decide, by decide, by decide, by decide, by decide⟩
end Go.Proofs.YtindkpfmflcibaaGreatDoor
