/- A drawn region by hand, where two operations may come up: one that reads or makes memory, one that calls. Nothing of the program. -/
import Derived.Test.YtindkpfmflcibaaGreatDoorGE
namespace Go.Proofs.YtindkpfmflcibaaGreatDoor
section
variable {P : Program} {md : Region.Mode} {l : List Oper} {Q : Exit → Act → World → Prop} {S : World → Prop} {fuel : Nat} {listed : Array Bool} {a : Act} {w : World} {i j : Nat} {o o2 : Oper}
/-- Two may come up: one that yields a value (in this world, or a new one), one that calls. -/
theorem held_make_call {v : Value} {w1 : World} {f : FuncId} {args : Array Value} {R : Ending → World → Prop} (hr : Region.ready md l.toArray listed = [i, j]) (ho : l[i]? = some o) (ho2 : l[j]? = some o2)
    (hw : Region.wanted o (yielded l.toArray a.tmps) = true) (hw2 : Region.wanted o2 (yielded l.toArray a.tmps) = true) (hS : S w1) (hy : (execOp a.eval o).run P w = .ok (.value v) w1) (hy2 : (execOp a.eval o2).run P w = .ok (.enter f args) w)
    (hc : Calls P f args w R) (h : wpAnyH P md l.toArray Q S fuel (listed.setIfInBounds i true) (a.put o.dst v) w1)
    (h2 : ∀ e w', R e w' → ∃ v2, e = .returned v2 ∧ S w' ∧ wpAnyH P md l.toArray Q S fuel (listed.setIfInBounds j true) (a.put o2.dst v2) w') : wpAnyH P md l.toArray Q S (fuel + 1) listed a w :=
  wpAnyH_ready hr (by simp) (AllReadyH.cons (by simpa using ho) (fun K hK => by
      rw [if_pos hw]
      unfold Oper.wp
      rw [hy]
      exact hK _ _ hS fun _ => h)
    (AllReadyH.cons (by simpa using ho2) (fun K hK => by
      rw [if_pos hw2]
      unfold Oper.wp
      rw [hy2]
      refine hc.mono fun e w' hR => ?_
      obtain ⟨v2, rfl, hS2, hh⟩ := h2 e w' hR
      exact hK _ _ hS2 fun _ => hh) AllReadyH.nil))
/-- Two may come up that only read. -/
theorem held_read_read {v v2 : Value} (hr : Region.ready md l.toArray listed = [i, j]) (ho : l[i]? = some o) (ho2 : l[j]? = some o2)
    (hw : Region.wanted o (yielded l.toArray a.tmps) = true) (hw2 : Region.wanted o2 (yielded l.toArray a.tmps) = true) (hS : S w) (hy : (execOp a.eval o).run P w = .ok (.value v) w) (hy2 : (execOp a.eval o2).run P w = .ok (.value v2) w)
    (h : wpAnyH P md l.toArray Q S fuel (listed.setIfInBounds i true) (a.put o.dst v) w) (h2 : wpAnyH P md l.toArray Q S fuel (listed.setIfInBounds j true) (a.put o2.dst v2) w) : wpAnyH P md l.toArray Q S (fuel + 1) listed a w :=
  wpAnyH_ready hr (by simp) (AllReadyH.cons (by simpa using ho) (fun K hK => by
      rw [if_pos hw]
      unfold Oper.wp
      rw [hy]
      exact hK _ _ hS fun _ => h)
    (AllReadyH.cons (by simpa using ho2) (fun K hK => by
      rw [if_pos hw2]
      unfold Oper.wp
      rw [hy2]
      exact hK _ _ hS fun _ => h2) AllReadyH.nil))
end
end Go.Proofs.YtindkpfmflcibaaGreatDoor
