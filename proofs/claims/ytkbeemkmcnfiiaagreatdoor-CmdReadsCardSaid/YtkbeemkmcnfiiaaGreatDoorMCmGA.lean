/- The contracts of cmd.Get and of the document's own, of any bytes; of the document's own Put. -/
import Derived.Test.YtkbeemkmcnfiiaaGreatDoorMCmG0
import Derived.Test.YtkbeemkmcnfiiaaGreatDoorMCmG1
import Derived.Test.YtkbeemkmcnfiiaaGreatDoorMCmG2
import Derived.Test.YtkbeemkmcnfiiaaGreatDoorMCmG3
import Derived.Test.YtkbeemkmcnfiiaaGreatDoorMCmG4
import Derived.Test.YtkbeemkmcnfiiaaGreatDoorMCmAny
namespace Go.Proofs.YtkbeemkmcnfiiaaGreatDoor
open Go.RowKit

theorem pget_any (A : Option Addr) (L : List UInt8) (cap : Nat) (w : World) (hl : L.length ≤ 140737488355328) (hB : Bs w A L) (hcap : A = none → cap = 0) (hE : Env7 w) :
    Calls Tryz.prog 15 #[.slice A L.length cap] w (GotC w (getC L)) := by
  by_cases h1 : (stI (L, false)).1 = 1
  · exact pget_1 A L cap w h1 hl hB hcap hE.tabs
  by_cases h2 : (stI (L, false)).1 = 2
  · exact pget_2 A L cap w h2 hl hB hcap hE
  by_cases h3 : (stI (L, false)).1 = 3
  · exact pget_3 A L cap w h3 hl hB hcap hE.tabs
  by_cases h4 : (stI (L, false)).1 = 4
  · exact pget_4 A L cap w h4 hl hB hcap hE
  exact pget_0 A L cap w (by omega) hl hB hcap hE.tabs
theorem sameC_refl (c : Cm) : sameC c.kd c.se c.sq c.f c.ve c.K c.n c.s c.kd c.se c.sq c.f c.ve c.K c.n c.s = true := (sameC_iff _ _ _ _ _ _ _ _ _ _ _ _ _ _ _ _).2 ⟨rfl, rfl, rfl, rfl, rfl, rfl, rfl, rfl⟩
theorem sameR_refl (r : Rp) : sameR r.e r.n r.K r.m r.s r.e r.n r.K r.m r.s = true := (sameR_iff _ _ _ _ _ _ _ _ _ _).2 ⟨rfl, rfl, rfl, rfl, rfl⟩
theorem stT_l24 (s : St) : (stT 24 s).1.length ≤ 24 := by
  have h : (stC 24 s).1 ≤ 24 := by
    by_cases h : 0 ≤ (stI s).1 ∧ (stI s).1 ≤ 24 ∧ (stI s).1 ≤ ((stI s).2.1.length : Int)
    · rw [stC_yes h]; exact h.2.1
    · rw [stC_no h]; decide
  unfold stT
  dsimp only
  rw [List.length_take]
  omega
theorem rdC_len (v : Int) (s : St) : (rdC v s).1.f.data.toList.length ≤ 24 ∧ (rdC v s).1.s.data.toList.length ≤ 400 := by
  by_cases h1 : v = 1
  · subst h1; rw [rdC_1]; exact ⟨Nat.zero_le _, Nat.zero_le _⟩
  by_cases h2 : v = 2
  · subst h2
    rw [rdC_2]
    exact ⟨stT_l24 _, getS_len _⟩
  by_cases h3 : v = 3
  · subst h3; rw [rdC_3]; exact ⟨Nat.zero_le _, Nat.zero_le _⟩
  by_cases h4 : v = 4
  · subst h4; rw [rdC_4]; exact ⟨stT_l24 _, Nat.zero_le _⟩
  rw [rdC_else (by omega)]; exact ⟨Nat.zero_le _, Nat.zero_le _⟩
theorem getC_len (L : List UInt8) : (getC L).1.f.data.toList.length ≤ 24 ∧ (getC L).1.s.data.toList.length ≤ 400 := by
  unfold getC
  by_cases hk : ((rdC (stI (L, false)).1 (stI (L, false)).2).2.2 = false ∧ (rdC (stI (L, false)).1 (stI (L, false)).2).2.1 = []) ∧ cmdB (rdC (stI (L, false)).1 (stI (L, false)).2).1 = true
  · rw [endC_yes hk.1.1 hk.1.2 hk.2]; exact rdC_len _ _
  · rw [endC_no hk]; exact ⟨Nat.zero_le _, Nat.zero_le _⟩
theorem getP_len (L : List UInt8) : (getP L).1.s.data.toList.length ≤ 400 := by
  by_cases hk : ((rdP (L, false)).2.2 = false ∧ (rdP (L, false)).2.1 = []) ∧ repB (rdP (L, false)).1 = true
  · rw [getP_yes hk.1.1 hk.1.2 hk.2]; exact getS_len _
  · rw [getP_no hk]; exact Nat.zero_le _
theorem putC_short (c : Cm) (hi : c.In) (hk : c.kd = 1 ∨ c.kd = 2 ∨ c.kd = 3 ∨ c.kd = 4) (hf : c.f.data.toList.length ≤ 1000000) (hs : c.s.data.toList.length ≤ 1000000) : (putC c).length ≤ 1000000000 := by
  have a := fun v h0 h1 => putI_ten (v := v) h0 h1
  have a1 := a c.se hi.e0 hi.e1
  have a2 := a c.sq hi.q0 hi.q1
  have a3 := a c.ve hi.v0 hi.v1
  have a4 := a c.K hi.K0 hi.K1
  have a5 := a c.n hi.n0 hi.n1
  have b1 := (putT_len _ hf).2
  have b2 := (putT_len _ hs).2
  have c1 := a 1 (by decide) (by decide)
  have c2 := a 2 (by decide) (by decide)
  have c3 := a 3 (by decide) (by decide)
  have c4 := a 4 (by decide) (by decide)
  rcases hk with h | h | h | h
  · rw [putC_1 h]; omega
  · rw [putC_2 h]; unfold putV; simp only [List.length_append]; omega
  · rw [putC_3 h]; simp only [List.length_append]; omega
  · rw [putC_4 h]; simp only [List.length_append]; omega
end Go.Proofs.YtkbeemkmcnfiiaaGreatDoor
