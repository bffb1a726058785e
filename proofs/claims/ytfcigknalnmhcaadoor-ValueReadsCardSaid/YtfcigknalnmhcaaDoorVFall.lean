/- One law more on a drawn region that is walked by hand: a call that panics. -/
import Derived.Test.YtfcigknalnmhcaaDoorHeldList
namespace Go.Proofs.YtfcigknalnmhcaaDoor
section
variable {P : Program} {Q : Exit → Act → World → Prop} {md : Region.Mode} {S : World → Prop} {l : List Oper} {i : Nat} {o : Oper} {fuel : Nat} {listed : Array Bool} {a : Act} {w : World}
/-- A call that panics. -/
theorem held_fall {f : FuncId} {args : Array Value} {R : Ending → World → Prop} (hr : Region.ready md l.toArray listed = [i]) (ho : l[i]? = some o) (hw : Region.wanted o (yielded l.toArray a.tmps) = true) (hy : (execOp a.eval o).run P w = .ok (.enter f args) w)
    (hc : Calls P f args w R) (h : ∀ e w', R e w' → ∃ c, e = .panicked c ∧ Q (.panic c) a w') : wpAnyH P md l.toArray Q S (fuel + 1) listed a w :=
  held_one hr ho hw fun K hK => by
    unfold Oper.wp
    rw [hy]
    refine hc.mono fun e w' hR => ?_
    obtain ⟨c, rfl, hh⟩ := h e w' hR
    exact hh
end
end Go.Proofs.YtfcigknalnmhcaaDoor
