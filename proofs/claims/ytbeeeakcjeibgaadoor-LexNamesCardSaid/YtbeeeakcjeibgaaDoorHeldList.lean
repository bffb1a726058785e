/- A drawn region, taken in the text's order by hand: the laws on what may be taken first, over a list of operations that is written out. Nothing of the program. -/
import Derived.Deep.RegionHeld3
namespace Go.Proofs.YtbeeeakcjeibgaaDoor
section
variable {P : Program} {Q : Exit → Act → World → Prop} {md : Region.Mode} {S : World → Prop} {l : List Oper} {i : Nat} {o : Oper} {fuel : Nat} {listed : Array Bool} {a : Act} {w : World}
/-- What yields its value in every world that meets S is taken first. -/
theorem held_take {v : Value} (ho : l[i]? = some o) (hs : Region.noSelect l.toArray = true) (hf : Region.free md l.toArray listed i = true) (hr : (Region.ready md l.toArray listed).contains i = true)
    (hQ : ∀ c a w, Q (.panic c) (a.put o.dst v) w → Q (.panic c) a w) (hw : Region.wanted o (yielded l.toArray a.tmps) = true) (hS : S w) (hy : ∀ w, S w → (execOp a.eval o).run P w = .ok (.value v) w)
    (h : wpAnyH P md l.toArray Q S fuel (listed.setIfInBounds i true) (a.put o.dst v) w) : wpAnyH P md l.toArray Q S (fuel + 1) listed a w :=
  wpAnyH_take (by simpa using ho) hs hf hr hQ (.inl ⟨hw, hy⟩) hS h
/-- What nobody waits for is passed by. -/
theorem held_skip (ho : l[i]? = some o) (hs : Region.noSelect l.toArray = true) (hf : Region.free md l.toArray listed i = true) (hr : (Region.ready md l.toArray listed).contains i = true)
    (hQ : ∀ c a w, Q (.panic c) (a.put o.dst undef) w → Q (.panic c) a w) (hw : Region.wanted o (yielded l.toArray a.tmps) = false) (hS : S w)
    (h : wpAnyH P md l.toArray Q S fuel (listed.setIfInBounds i true) (a.put o.dst undef) w) : wpAnyH P md l.toArray Q S (fuel + 1) listed a w :=
  wpAnyH_take (by simpa using ho) hs hf hr hQ (.inr ⟨hw, rfl⟩) hS h
/-- The one that may come up comes up. -/
theorem held_one (hr : Region.ready md l.toArray listed = [i]) (ho : l[i]? = some o) (hw : Region.wanted o (yielded l.toArray a.tmps) = true)
    (h : ∀ K : Act → World → Prop, Shut (∀ a w, S w → wpAnyH P md l.toArray Q S fuel (listed.setIfInBounds i true) a w → K a w) → Oper.wp P o a w K Q) : wpAnyH P md l.toArray Q S (fuel + 1) listed a w :=
  wpAnyH_ready hr (by simp) (AllReadyH.cons (by simpa using ho) (fun K hK => by rw [if_pos hw]; exact h K (fun a w hS hh => hK a w hS fun _ => hh)) AllReadyH.nil)
/-- The same, where it only reads, in this world. -/
theorem held_read {v : Value} (hr : Region.ready md l.toArray listed = [i]) (ho : l[i]? = some o) (hw : Region.wanted o (yielded l.toArray a.tmps) = true) (hS : S w) (hy : (execOp a.eval o).run P w = .ok (.value v) w)
    (h : wpAnyH P md l.toArray Q S fuel (listed.setIfInBounds i true) (a.put o.dst v) w) : wpAnyH P md l.toArray Q S (fuel + 1) listed a w :=
  held_one hr ho hw fun K hK => by
    unfold Oper.wp
    rw [hy]
    exact hK _ _ hS h
/-- The same, at a call of a Go function. -/
theorem held_call {f : FuncId} {args : Array Value} {R : Ending → World → Prop} (hr : Region.ready md l.toArray listed = [i]) (ho : l[i]? = some o) (hw : Region.wanted o (yielded l.toArray a.tmps) = true) (hy : (execOp a.eval o).run P w = .ok (.enter f args) w)
    (hc : Calls P f args w R) (h : ∀ e w', R e w' → ∃ v, e = .returned v ∧ S w' ∧ wpAnyH P md l.toArray Q S fuel (listed.setIfInBounds i true) (a.put o.dst v) w') : wpAnyH P md l.toArray Q S (fuel + 1) listed a w :=
  held_one hr ho hw fun K hK => by
    unfold Oper.wp
    rw [hy]
    refine hc.mono fun e w' hR => ?_
    obtain ⟨v, rfl, hS, hh⟩ := h e w' hR
    exact hK _ _ hS hh
/-- The one that may come up makes memory. -/
theorem held_make {v : Value} {w' : World} (hr : Region.ready md l.toArray listed = [i]) (ho : l[i]? = some o) (hw : Region.wanted o (yielded l.toArray a.tmps) = true) (hy : (execOp a.eval o).run P w = .ok (.value v) w') (hS : S w')
    (h : wpAnyH P md l.toArray Q S fuel (listed.setIfInBounds i true) (a.put o.dst v) w') : wpAnyH P md l.toArray Q S (fuel + 1) listed a w :=
  held_one hr ho hw fun K hK => by
    unfold Oper.wp
    rw [hy]
    exact hK _ _ hS h
/-- The one that may come up panics. -/
theorem held_panic {v : Value} {w' : World} (hr : Region.ready md l.toArray listed = [i]) (ho : l[i]? = some o) (hw : Region.wanted o (yielded l.toArray a.tmps) = true) (hy : (execOp a.eval o).run P w = .halt (.panic v) w')
    (h : Q (.panic [{ v, recovered := false }]) a w') : wpAnyH P md l.toArray Q S (fuel + 1) listed a w :=
  held_one hr ho hw fun K hK => by
    unfold Oper.wp
    rw [hy]
    exact h
end
end Go.Proofs.YtbeeeakcjeibgaaDoor
