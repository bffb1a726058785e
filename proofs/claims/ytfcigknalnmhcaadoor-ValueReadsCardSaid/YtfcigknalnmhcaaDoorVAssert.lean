/- The contracts of value.Int, value.Bool, value.Text (assertions, whose panic is told with an *api.Wrong). -/
import Derived.Test.YtfcigknalnmhcaaDoorVBox
import Derived.Recover
import Derived.Test.YtfcigknalnmhcaaDoorHeldList
namespace Go.Proofs.YtfcigknalnmhcaaDoor
open Go.RowKit

theorem two_boxes {w w1 : World} {x y : Value} {s t : TypeId} (hb : Below ((w.alloc (.cells #[x] s)).alloc (.cells #[y] t)).heap.size ((w.alloc (.cells #[x] s)).alloc (.cells #[y] t)) w1) :
    w1.cell? ⟨w.heap.size, 0, none⟩ = some x ∧ w1.cell? ⟨w.heap.size + 1, 0, none⟩ = some y ∧ w.heap.size + 1 < w1.heap.size := by
  have hz := hb.size
  rw [alloc_size, alloc_size] at hz
  refine ⟨?_, ?_, by omega⟩
  · rw [hb.cell (p := ⟨w.heap.size, 0, none⟩) (by simp only [alloc_size]; omega), World.cell?_alloc_past _ _ _ (by rw [alloc_size]; omega), cells_of_alloc]; rfl
  · rw [hb.cell (p := ⟨w.heap.size + 1, 0, none⟩) (by simp only [alloc_size]; omega)]
    have := cells_of_alloc (w.alloc (.cells #[x] s)) #[y] t 0
    rw [alloc_size] at this
    rw [this]; rfl
/-- A box: nil, or of a type. -/
def IsIface (x : Value) : Prop := x = .nilIface ∨ ∃ u v, x = .iface u v
/-- What a call panics with, where it asks for a kind that is not there. -/
def Fell (w : World) (want got : Int) (e : Ending) (w' : World) : Prop :=
  ∃ N older, e = .panicked ({ v := .iface 72 (.pointer (some ⟨N, 0, none⟩)), recovered := false } :: older) ∧ (∀ x ∈ older, x.goexit = false) ∧ N < w'.heap.size ∧ w.heap.size ≤ N ∧
    w'.cell? ⟨N, 0, none⟩ = some (.int .i64 want) ∧ w'.cell? ⟨N, 1, none⟩ = some (.int .i64 got) ∧ Below w.heap.size w w'

/-- A panic with an *api.Wrong in a new block. -/
def PanQ (w : World) (want got : Int) (e : Exit) (a : Act) (w' : World) : Prop :=
  ∃ w1, Below w.heap.size w w1 ∧ e = .panic [{ v := .iface 72 (.pointer (some ⟨w1.heap.size, 0, none⟩)), recovered := false }] ∧ a.defers = [] ∧ w' = w1.alloc (.cells #[.int .i64 want, .int .i64 got] 38)
theorem lt_of_cell {w : World} {p : Addr} {v : Value} (h : w.cell? p = some v) : p.block < w.heap.size := by
  unfold World.cell? at h
  cases hb : w.heap[p.block]? with
  | none => rw [hb] at h; cases h
  | some o => exact (Array.getElem?_eq_some_iff.1 hb).1
theorem panQ_mk (w : World) (want got : Int) (w1 : World) (tm : Array Value) (hb : Below w.heap.size w w1) :
    PanQ w want got (.panic [{ v := .iface 72 (.pointer (some ⟨w1.heap.size, 0, none⟩)), recovered := false }]) { tmps := tm, defers := [] } (w1.alloc (.cells #[.int .i64 want, .int .i64 got] 38)) :=
  ⟨w1, hb, rfl, rfl, rfl⟩
/- ### Int -/
theorem fallN (u : TypeId) (v : Value) (h : u ≠ 2) : ∃ o : Obj, ∀ w : World, (Instr.typeAssert (.iface u v) 20 2 false).run Tryd.prog w = .halt (.panic (.iface 15 (.pointer (some ⟨w.heap.size, 0, none⟩)))) (w.alloc o) := by
  refine ⟨.cells #[typeHandle Tryd.prog 20, typeHandle Tryd.prog u, typeHandle Tryd.prog 2, .string ⟨#[]⟩] 159, fun w => ?_⟩
  have e : (Instr.typeAssert (.iface u v) 20 2 false).run Tryd.prog w = (if u = 2 then (pure v : Sem Value) else runtimePanic (.typeAssertion (some 20) (some u) 2 "")).run Tryd.prog w := by kernel_rfl
  have k : (runtimePanic (.typeAssertion (some 20) (some u) 2 "") : Sem Value).run Tryd.prog w = .halt (.panic (.iface 15 (.pointer (some ⟨w.heap.size, 0, none⟩)))) (w.alloc (.cells #[typeHandle Tryd.prog 20, typeHandle Tryd.prog u, typeHandle Tryd.prog 2, .string ⟨#[]⟩] 159)) := by kernel_rfl
  rw [e, if_neg h]
  exact k
theorem fallN_nil : ∃ o : Obj, ∀ w : World, (Instr.typeAssert .nilIface 20 2 false).run Tryd.prog w = .halt (.panic (.iface 15 (.pointer (some ⟨w.heap.size, 0, none⟩)))) (w.alloc o) :=
  ⟨.cells #[typeHandle Tryd.prog 20, .pointer none, typeHandle Tryd.prog 2, .string ⟨#[]⟩] 159, fun w => by kernel_rfl⟩
theorem holdN (v : Value) (w : World) : (Instr.typeAssert (.iface 2 v) 20 2 false).run Tryd.prog w = .ok v w := by kernel_rfl
set_option maxHeartbeats 1000000 in
theorem catchN_idle (p q : Addr) (w : World) :
    CallsD Tryd.prog 74 #[.pointer (some p), .pointer (some q)] .returning w fun e u' w' => e = .returned (.tuple #[]) ∧ u' = .returning ∧ w' = w := by
  have hn := is_nil
  refine callsD_of_wpS Tryd.func74 rfl fun c₀ cs hu => ?_
  apply wpS_seq
  apply wpS_region
  simp [wpOpsS, go_sem, recoverD, hu, Tryd.ntmps74, Exit.thenS]
  refine wpS_cond (t := false) (by simp [Act.eval, Array.replicate]) ?_
  simp only [Bool.false_eq_true, if_false]
  refine wpS_of_wp (wp_skip ?_)
  cases c₀
  simp_all [bodyPostS, results, Tryd.results74]

set_option maxHeartbeats 1000000 in
theorem catchN_falls (p q : Addr) (x : Value) (want got : Int) (u : TypeId) (pv : Value) (older : List PanicEntry) (w : World) (hp : w.cell? p = some (.int .i64 want)) (hq : w.cell? q = some x)
    (hk : ∀ w1, w1 = w ∨ w1 = w.drew → Calls Tryd.prog 19 #[x] w1 fun e w' => e = .returned (.int .i64 got) ∧ Below w.heap.size w w') :
    CallsD Tryd.prog 74 #[.pointer (some p), .pointer (some q)] (.panicking ({ v := .iface u pv, recovered := false } :: older)) w fun e u' w' =>
      ∃ N, e = .panicked [{ v := .iface 72 (.pointer (some ⟨N, 0, none⟩)), recovered := false }] ∧ u' = .panicking ({ v := .iface u pv, recovered := true } :: older) ∧ N < w'.heap.size ∧ w.heap.size ≤ N ∧
        w'.cell? ⟨N, 0, none⟩ = some (.int .i64 want) ∧ w'.cell? ⟨N, 1, none⟩ = some (.int .i64 got) ∧ Below w.heap.size w w' := by
  have hn := fun w => not_nil w u pv
  refine callsD_of_wpS Tryd.func74 rfl fun c₀ cs hu => ?_
  apply wpS_seq
  apply wpS_region
  simp [wpOpsS, go_sem, recoverD, hu, Tryd.ntmps74, Exit.thenS, -not_exists]
  refine wpS_cond (t := true) (by simp [Act.eval, Array.replicate]) ?_
  simp only [if_true]
  refine wpS_of_wp ?_
  refine Code.wp_mono (Q := PanQ w want got) ?_ ?_
  · rintro e a w' ⟨w1, hb1, rfl, hd, rfl⟩
    refine ⟨hd, _, rfl, w1.heap.size, rfl, rfl, by simp, hb1.size, ?_, ?_, hb1.alloc hb1.size _⟩
    · rw [cells_of_alloc]; rfl
    · rw [cells_of_alloc]; rfl
  show Code.wp _ _ _ { tmps := #[.pointer (some p), .pointer (some q), .iface u pv, .bool true, undef, undef, undef, undef, undef, undef], defers := [] } w
  have lp : p.block < w.heap.size := lt_of_cell hp
  have lq : q.block < w.heap.size := lt_of_cell hq
  refine wp_region_held_drew (S := fun w' => Below w.heap.size w w') (by kernel_rfl) ((Below.refl _ _).drew) (fun hHeld => ?_)
  refine held_take (i := 0) (v := ?_) rfl (by kernel_rfl) (by kernel_rfl) (by kernel_rfl) (fun _ _ _ h => h) (by rfl) hHeld ?_ ?_
  rotate_left
  · intro wz hSz; have k := (hSz.cell lp).trans hp; go_simp; try with_reducible rfl
  simp only [Act.put, List.setIfInBounds_toArray, List.set_cons_zero, List.set_cons_succ]
  refine held_take (i := 1) (v := ?_) rfl (by kernel_rfl) (by kernel_rfl) (by kernel_rfl) (fun _ _ _ h => h) (by rfl) hHeld ?_ ?_
  rotate_left
  · intro wz hSz; have k := (hSz.cell lq).trans hq; go_simp; try with_reducible rfl
  simp only [Act.put, List.setIfInBounds_toArray, List.set_cons_zero, List.set_cons_succ]
  refine held_call (i := 2) (by kernel_rfl) rfl (by rfl) (by go_simp; try with_reducible rfl) (hk _ (.inr rfl)) ?_
  rintro e wy ⟨rfl, hb1⟩
  refine ⟨_, rfl, hb1, ?_⟩
  replace hHeld := hb1
  simp only [Act.put, List.setIfInBounds_toArray, List.set_cons_zero, List.set_cons_succ]
  refine held_take (i := 3) (v := ?_) rfl (by kernel_rfl) (by kernel_rfl) (by kernel_rfl) (fun _ _ _ h => h) (by rfl) hHeld ?_ ?_
  rotate_left
  · intro wz hSz; go_simp; try with_reducible rfl
  simp only [Act.put, List.setIfInBounds_toArray, List.set_cons_zero, List.set_cons_succ]
  refine held_make (i := 4) (v := .pointer (some ⟨wy.heap.size, 0, none⟩)) (w' := wy.alloc (.cells #[.int .i64 want, .int .i64 got] 38)) (by kernel_rfl) rfl (by rfl) (by go_simp; try with_reducible rfl) (hHeld.alloc hHeld.size _) ?_
  simp only [Act.put, List.setIfInBounds_toArray, List.set_cons_zero, List.set_cons_succ]
  replace hHeld := hHeld.alloc hHeld.size (.cells #[.int .i64 want, .int .i64 got] 38)
  refine held_take (i := 5) (v := ?_) rfl (by kernel_rfl) (by kernel_rfl) (by kernel_rfl) (fun _ _ _ h => h) (by rfl) hHeld ?_ ?_
  rotate_left
  · intro wz hSz; go_simp; try with_reducible rfl
  simp only [Act.put, List.setIfInBounds_toArray, List.set_cons_zero, List.set_cons_succ]
  refine held_panic (i := 6) (v := .iface 72 (.pointer (some ⟨wy.heap.size, 0, none⟩))) (w' := wy.alloc (.cells #[.int .i64 want, .int .i64 got] 38)) (by kernel_rfl) rfl (by rfl) (by go_simp; try with_reducible rfl) ?_
  exact panQ_mk w want got wy _ hb1

set_option maxHeartbeats 2000000 in
set_option maxRecDepth 100000 in
theorem assertN_yes (x x' v : Value) (want : Int) (w : World) (hxc : IsIface x) (hT : Tabs w) (hpr : ∀ w, Tabs w → Calls Tryd.prog 75 #[x] w fun e w' => e = .returned x' ∧ Below w.heap.size w w')
    (hv : ∀ w, (Instr.typeAssert x' 20 2 false).run Tryd.prog w = .ok v w) :
    Calls Tryd.prog 51 #[x, .int .i64 want] w fun e w' => e = .returned v ∧ Below w.heap.size w w' := by
  have hmf : ∀ (fn : Fn) (first cap : Array Value) (w : World), (Instr.makeFunc fn first cap).run Tryd.prog w = .ok (.func fn first cap) w := fun _ _ _ _ => rfl
  have hb0 : Below w.heap.size w ((w.alloc (.cells #[x] 20)).alloc (.cells #[.int .i64 want] 3)) := (below_alloc w _).alloc (by simp) _
  have cP := hpr _ (hT.later hb0)
  clear hpr hT
  rcases hxc with rfl | ⟨u0, v0, rfl⟩
  all_goals
    go_enter_defers Tryd.func51, Tryd.ntmps51
    go_wp2_with fail
    refine cP.mono ?_
    rintro e w1 ⟨rfl, hb1⟩
    have hb2 := below_to hb0 hb1
    clear hb1 hb0 cP
    go_wp2
    refine leaves_cons (f := 74) (args := #[.pointer (some ⟨w.heap.size + 1, 0, none⟩), .pointer (some ⟨w.heap.size, 0, none⟩)]) (by simp) (by simp [go_sem]) ?_
    refine (catchN_idle _ _ _).mono ?_
    rintro e u' w'' ⟨rfl, rfl, rfl⟩
    refine ⟨v, ?_, rfl, hb2⟩
    simp [results, Tryd.results51, go_sem]
set_option maxHeartbeats 2000000 in
set_option maxRecDepth 100000 in
theorem assertN_no (x x' : Value) (want got : Int) (w : World) (hxc : IsIface x) (hT : Tabs w) (hpr : ∀ w, Tabs w → Calls Tryd.prog 75 #[x] w fun e w' => e = .returned x' ∧ Below w.heap.size w w')
    (hk : ∀ w, Tabs w → Calls Tryd.prog 19 #[x] w fun e w' => e = .returned (.int .i64 got) ∧ Below w.heap.size w w')
    (hv : ∃ o : Obj, ∀ w : World, (Instr.typeAssert x' 20 2 false).run Tryd.prog w = .halt (.panic (.iface 15 (.pointer (some ⟨w.heap.size, 0, none⟩)))) (w.alloc o)) :
    Calls Tryd.prog 51 #[x, .int .i64 want] w (Fell w want got) := by
  obtain ⟨o, hv⟩ := hv
  have hmf : ∀ (fn : Fn) (first cap : Array Value) (w : World), (Instr.makeFunc fn first cap).run Tryd.prog w = .ok (.func fn first cap) w := fun _ _ _ _ => rfl
  have hb0 : Below w.heap.size w ((w.alloc (.cells #[x] 20)).alloc (.cells #[.int .i64 want] 3)) := (below_alloc w _).alloc (by simp) _
  have cP := hpr _ (hT.later hb0)
  have HF := Lib.hid (fun (pv : Value) (w2 : World) hp hq hk' => catchN_falls ⟨w.heap.size + 1, 0, none⟩ ⟨w.heap.size, 0, none⟩ x want got 15 pv [] w2 hp hq hk')
  clear hpr
  rcases hxc with rfl | ⟨u0, v0, rfl⟩
  all_goals
    go_enter_defers Tryd.func51, Tryd.ntmps51
    go_wp2_with fail
    refine cP.mono ?_
    rintro e w1 ⟨rfl, hb1⟩
    obtain ⟨hx, hw, hz⟩ := two_boxes hb1
    have hb2 := below_to hb0 hb1
    have hb3 := hb2.alloc hb2.size o
    have HX := Lib.hid hx
    have HW := Lib.hid hw
    clear hb1 hb0 cP hx hw
    go_wp2
    refine leaves_cons (f := 74) (args := #[.pointer (some ⟨w.heap.size + 1, 0, none⟩), .pointer (some ⟨w.heap.size, 0, none⟩)]) (by simp) (by simp [go_sem]) ?_
    refine (HF.out _ _ ?_ ?_ ?_).mono ?_
    · rw [World.cell?_alloc_past _ _ _ hz]; exact HW.out
    · rw [World.cell?_alloc_past _ _ _ (Nat.lt_trans (Nat.lt_succ_self _) hz)]; exact HX.out
    · rintro w2 (rfl | rfl)
      · exact hk _ (hT.later hb3)
      · refine (hk _ (hT.later hb3.drew)).mono fun e w' ⟨he, hb⟩ => ⟨he, ?_⟩
        exact ((Below.refl _ _).drew).trans hb
    rintro e u' w'' ⟨N, rfl, rfl, h1, h2, h3, h4, h5⟩
    refine ⟨N, _, rfl, ?_, h1, ?_, h3, h4, below_to hb3 h5⟩
    · intro x hx; simp at hx; subst hx; rfl
    · have := hb3.size; omega

set_option maxHeartbeats 1000000 in
theorem int_yes (x x' v : Value) (w : World) (hxc : IsIface x) (hT : Tabs w) (hpr : ∀ w, Tabs w → Calls Tryd.prog 75 #[x] w fun e w' => e = .returned x' ∧ Below w.heap.size w w')
    (hv : ∀ w, (Instr.typeAssert x' 20 2 false).run Tryd.prog w = .ok v w) :
    Calls Tryd.prog 25 #[x] w fun e w' => e = .returned v ∧ Below w.heap.size w w' := by
  have c := assertN_yes x x' v 1 w hxc hT hpr hv
  clear hpr hv
  go_enter Tryd.func25, Tryd.ntmps25
  go_wp2_with fail
  refine c.mono ?_
  rintro e w1 ⟨rfl, hb1⟩
  clear c
  go_wp2
  go_ret
  exact ⟨rfl, hb1⟩
set_option maxHeartbeats 1000000 in
theorem int_no (x x' : Value) (got : Int) (w : World) (hxc : IsIface x) (hT : Tabs w) (hpr : ∀ w, Tabs w → Calls Tryd.prog 75 #[x] w fun e w' => e = .returned x' ∧ Below w.heap.size w w')
    (hk : ∀ w, Tabs w → Calls Tryd.prog 19 #[x] w fun e w' => e = .returned (.int .i64 got) ∧ Below w.heap.size w w')
    (hv : ∃ o : Obj, ∀ w : World, (Instr.typeAssert x' 20 2 false).run Tryd.prog w = .halt (.panic (.iface 15 (.pointer (some ⟨w.heap.size, 0, none⟩)))) (w.alloc o)) :
    Calls Tryd.prog 25 #[x] w (Fell w 1 got) := by
  have c := assertN_no x x' 1 got w hxc hT hpr hk hv
  clear hpr hk hv
  go_enter Tryd.func25, Tryd.ntmps25
  go_wp2_with fail
  refine c.mono ?_
  rintro e w1 ⟨N, older, rfl, hrest⟩
  exact ⟨rfl, N, older, rfl, hrest⟩
/- ### Bool -/
theorem fallB (u : TypeId) (v : Value) (h : u ≠ 4) : ∃ o : Obj, ∀ w : World, (Instr.typeAssert (.iface u v) 20 4 false).run Tryd.prog w = .halt (.panic (.iface 15 (.pointer (some ⟨w.heap.size, 0, none⟩)))) (w.alloc o) := by
  refine ⟨.cells #[typeHandle Tryd.prog 20, typeHandle Tryd.prog u, typeHandle Tryd.prog 4, .string ⟨#[]⟩] 159, fun w => ?_⟩
  have e : (Instr.typeAssert (.iface u v) 20 4 false).run Tryd.prog w = (if u = 4 then (pure v : Sem Value) else runtimePanic (.typeAssertion (some 20) (some u) 4 "")).run Tryd.prog w := by kernel_rfl
  have k : (runtimePanic (.typeAssertion (some 20) (some u) 4 "") : Sem Value).run Tryd.prog w = .halt (.panic (.iface 15 (.pointer (some ⟨w.heap.size, 0, none⟩)))) (w.alloc (.cells #[typeHandle Tryd.prog 20, typeHandle Tryd.prog u, typeHandle Tryd.prog 4, .string ⟨#[]⟩] 159)) := by kernel_rfl
  rw [e, if_neg h]
  exact k
theorem fallB_nil : ∃ o : Obj, ∀ w : World, (Instr.typeAssert .nilIface 20 4 false).run Tryd.prog w = .halt (.panic (.iface 15 (.pointer (some ⟨w.heap.size, 0, none⟩)))) (w.alloc o) :=
  ⟨.cells #[typeHandle Tryd.prog 20, .pointer none, typeHandle Tryd.prog 4, .string ⟨#[]⟩] 159, fun w => by kernel_rfl⟩
theorem holdB (v : Value) (w : World) : (Instr.typeAssert (.iface 4 v) 20 4 false).run Tryd.prog w = .ok v w := by kernel_rfl
set_option maxHeartbeats 1000000 in
theorem catchB_idle (p q : Addr) (w : World) :
    CallsD Tryd.prog 76 #[.pointer (some p), .pointer (some q)] .returning w fun e u' w' => e = .returned (.tuple #[]) ∧ u' = .returning ∧ w' = w := by
  have hn := is_nil
  refine callsD_of_wpS Tryd.func76 rfl fun c₀ cs hu => ?_
  apply wpS_seq
  apply wpS_region
  simp [wpOpsS, go_sem, recoverD, hu, Tryd.ntmps76, Exit.thenS]
  refine wpS_cond (t := false) (by simp [Act.eval, Array.replicate]) ?_
  simp only [Bool.false_eq_true, if_false]
  refine wpS_of_wp (wp_skip ?_)
  cases c₀
  simp_all [bodyPostS, results, Tryd.results76]

set_option maxHeartbeats 1000000 in
theorem catchB_falls (p q : Addr) (x : Value) (want got : Int) (u : TypeId) (pv : Value) (older : List PanicEntry) (w : World) (hp : w.cell? p = some (.int .i64 want)) (hq : w.cell? q = some x)
    (hk : ∀ w1, w1 = w ∨ w1 = w.drew → Calls Tryd.prog 19 #[x] w1 fun e w' => e = .returned (.int .i64 got) ∧ Below w.heap.size w w') :
    CallsD Tryd.prog 76 #[.pointer (some p), .pointer (some q)] (.panicking ({ v := .iface u pv, recovered := false } :: older)) w fun e u' w' =>
      ∃ N, e = .panicked [{ v := .iface 72 (.pointer (some ⟨N, 0, none⟩)), recovered := false }] ∧ u' = .panicking ({ v := .iface u pv, recovered := true } :: older) ∧ N < w'.heap.size ∧ w.heap.size ≤ N ∧
        w'.cell? ⟨N, 0, none⟩ = some (.int .i64 want) ∧ w'.cell? ⟨N, 1, none⟩ = some (.int .i64 got) ∧ Below w.heap.size w w' := by
  have hn := fun w => not_nil w u pv
  refine callsD_of_wpS Tryd.func76 rfl fun c₀ cs hu => ?_
  apply wpS_seq
  apply wpS_region
  simp [wpOpsS, go_sem, recoverD, hu, Tryd.ntmps76, Exit.thenS, -not_exists]
  refine wpS_cond (t := true) (by simp [Act.eval, Array.replicate]) ?_
  simp only [if_true]
  refine wpS_of_wp ?_
  refine Code.wp_mono (Q := PanQ w want got) ?_ ?_
  · rintro e a w' ⟨w1, hb1, rfl, hd, rfl⟩
    refine ⟨hd, _, rfl, w1.heap.size, rfl, rfl, by simp, hb1.size, ?_, ?_, hb1.alloc hb1.size _⟩
    · rw [cells_of_alloc]; rfl
    · rw [cells_of_alloc]; rfl
  show Code.wp _ _ _ { tmps := #[.pointer (some p), .pointer (some q), .iface u pv, .bool true, undef, undef, undef, undef, undef, undef], defers := [] } w
  have lp : p.block < w.heap.size := lt_of_cell hp
  have lq : q.block < w.heap.size := lt_of_cell hq
  refine wp_region_held_drew (S := fun w' => Below w.heap.size w w') (by kernel_rfl) ((Below.refl _ _).drew) (fun hHeld => ?_)
  refine held_take (i := 0) (v := ?_) rfl (by kernel_rfl) (by kernel_rfl) (by kernel_rfl) (fun _ _ _ h => h) (by rfl) hHeld ?_ ?_
  rotate_left
  · intro wz hSz; have k := (hSz.cell lp).trans hp; go_simp; try with_reducible rfl
  simp only [Act.put, List.setIfInBounds_toArray, List.set_cons_zero, List.set_cons_succ]
  refine held_take (i := 1) (v := ?_) rfl (by kernel_rfl) (by kernel_rfl) (by kernel_rfl) (fun _ _ _ h => h) (by rfl) hHeld ?_ ?_
  rotate_left
  · intro wz hSz; have k := (hSz.cell lq).trans hq; go_simp; try with_reducible rfl
  simp only [Act.put, List.setIfInBounds_toArray, List.set_cons_zero, List.set_cons_succ]
  refine held_call (i := 2) (by kernel_rfl) rfl (by rfl) (by go_simp; try with_reducible rfl) (hk _ (.inr rfl)) ?_
  rintro e wy ⟨rfl, hb1⟩
  refine ⟨_, rfl, hb1, ?_⟩
  replace hHeld := hb1
  simp only [Act.put, List.setIfInBounds_toArray, List.set_cons_zero, List.set_cons_succ]
  refine held_take (i := 3) (v := ?_) rfl (by kernel_rfl) (by kernel_rfl) (by kernel_rfl) (fun _ _ _ h => h) (by rfl) hHeld ?_ ?_
  rotate_left
  · intro wz hSz; go_simp; try with_reducible rfl
  simp only [Act.put, List.setIfInBounds_toArray, List.set_cons_zero, List.set_cons_succ]
  refine held_make (i := 4) (v := .pointer (some ⟨wy.heap.size, 0, none⟩)) (w' := wy.alloc (.cells #[.int .i64 want, .int .i64 got] 38)) (by kernel_rfl) rfl (by rfl) (by go_simp; try with_reducible rfl) (hHeld.alloc hHeld.size _) ?_
  simp only [Act.put, List.setIfInBounds_toArray, List.set_cons_zero, List.set_cons_succ]
  replace hHeld := hHeld.alloc hHeld.size (.cells #[.int .i64 want, .int .i64 got] 38)
  refine held_take (i := 5) (v := ?_) rfl (by kernel_rfl) (by kernel_rfl) (by kernel_rfl) (fun _ _ _ h => h) (by rfl) hHeld ?_ ?_
  rotate_left
  · intro wz hSz; go_simp; try with_reducible rfl
  simp only [Act.put, List.setIfInBounds_toArray, List.set_cons_zero, List.set_cons_succ]
  refine held_panic (i := 6) (v := .iface 72 (.pointer (some ⟨wy.heap.size, 0, none⟩))) (w' := wy.alloc (.cells #[.int .i64 want, .int .i64 got] 38)) (by kernel_rfl) rfl (by rfl) (by go_simp; try with_reducible rfl) ?_
  exact panQ_mk w want got wy _ hb1

set_option maxHeartbeats 2000000 in
set_option maxRecDepth 100000 in
theorem assertB_yes (x x' v : Value) (want : Int) (w : World) (hxc : IsIface x) (hT : Tabs w) (hpr : ∀ w, Tabs w → Calls Tryd.prog 75 #[x] w fun e w' => e = .returned x' ∧ Below w.heap.size w w')
    (hv : ∀ w, (Instr.typeAssert x' 20 4 false).run Tryd.prog w = .ok v w) :
    Calls Tryd.prog 52 #[x, .int .i64 want] w fun e w' => e = .returned v ∧ Below w.heap.size w w' := by
  have hmf : ∀ (fn : Fn) (first cap : Array Value) (w : World), (Instr.makeFunc fn first cap).run Tryd.prog w = .ok (.func fn first cap) w := fun _ _ _ _ => rfl
  have hb0 : Below w.heap.size w ((w.alloc (.cells #[x] 20)).alloc (.cells #[.int .i64 want] 3)) := (below_alloc w _).alloc (by simp) _
  have cP := hpr _ (hT.later hb0)
  clear hpr hT
  rcases hxc with rfl | ⟨u0, v0, rfl⟩
  all_goals
    go_enter_defers Tryd.func52, Tryd.ntmps52
    go_wp2_with fail
    refine cP.mono ?_
    rintro e w1 ⟨rfl, hb1⟩
    have hb2 := below_to hb0 hb1
    clear hb1 hb0 cP
    go_wp2
    refine leaves_cons (f := 76) (args := #[.pointer (some ⟨w.heap.size + 1, 0, none⟩), .pointer (some ⟨w.heap.size, 0, none⟩)]) (by simp) (by simp [go_sem]) ?_
    refine (catchB_idle _ _ _).mono ?_
    rintro e u' w'' ⟨rfl, rfl, rfl⟩
    refine ⟨v, ?_, rfl, hb2⟩
    simp [results, Tryd.results52, go_sem]
set_option maxHeartbeats 2000000 in
set_option maxRecDepth 100000 in
theorem assertB_no (x x' : Value) (want got : Int) (w : World) (hxc : IsIface x) (hT : Tabs w) (hpr : ∀ w, Tabs w → Calls Tryd.prog 75 #[x] w fun e w' => e = .returned x' ∧ Below w.heap.size w w')
    (hk : ∀ w, Tabs w → Calls Tryd.prog 19 #[x] w fun e w' => e = .returned (.int .i64 got) ∧ Below w.heap.size w w')
    (hv : ∃ o : Obj, ∀ w : World, (Instr.typeAssert x' 20 4 false).run Tryd.prog w = .halt (.panic (.iface 15 (.pointer (some ⟨w.heap.size, 0, none⟩)))) (w.alloc o)) :
    Calls Tryd.prog 52 #[x, .int .i64 want] w (Fell w want got) := by
  obtain ⟨o, hv⟩ := hv
  have hmf : ∀ (fn : Fn) (first cap : Array Value) (w : World), (Instr.makeFunc fn first cap).run Tryd.prog w = .ok (.func fn first cap) w := fun _ _ _ _ => rfl
  have hb0 : Below w.heap.size w ((w.alloc (.cells #[x] 20)).alloc (.cells #[.int .i64 want] 3)) := (below_alloc w _).alloc (by simp) _
  have cP := hpr _ (hT.later hb0)
  have HF := Lib.hid (fun (pv : Value) (w2 : World) hp hq hk' => catchB_falls ⟨w.heap.size + 1, 0, none⟩ ⟨w.heap.size, 0, none⟩ x want got 15 pv [] w2 hp hq hk')
  clear hpr
  rcases hxc with rfl | ⟨u0, v0, rfl⟩
  all_goals
    go_enter_defers Tryd.func52, Tryd.ntmps52
    go_wp2_with fail
    refine cP.mono ?_
    rintro e w1 ⟨rfl, hb1⟩
    obtain ⟨hx, hw, hz⟩ := two_boxes hb1
    have hb2 := below_to hb0 hb1
    have hb3 := hb2.alloc hb2.size o
    have HX := Lib.hid hx
    have HW := Lib.hid hw
    clear hb1 hb0 cP hx hw
    go_wp2
    refine leaves_cons (f := 76) (args := #[.pointer (some ⟨w.heap.size + 1, 0, none⟩), .pointer (some ⟨w.heap.size, 0, none⟩)]) (by simp) (by simp [go_sem]) ?_
    refine (HF.out _ _ ?_ ?_ ?_).mono ?_
    · rw [World.cell?_alloc_past _ _ _ hz]; exact HW.out
    · rw [World.cell?_alloc_past _ _ _ (Nat.lt_trans (Nat.lt_succ_self _) hz)]; exact HX.out
    · rintro w2 (rfl | rfl)
      · exact hk _ (hT.later hb3)
      · refine (hk _ (hT.later hb3.drew)).mono fun e w' ⟨he, hb⟩ => ⟨he, ?_⟩
        exact ((Below.refl _ _).drew).trans hb
    rintro e u' w'' ⟨N, rfl, rfl, h1, h2, h3, h4, h5⟩
    refine ⟨N, _, rfl, ?_, h1, ?_, h3, h4, below_to hb3 h5⟩
    · intro x hx; simp at hx; subst hx; rfl
    · have := hb3.size; omega

set_option maxHeartbeats 1000000 in
theorem bool_yes (x x' v : Value) (w : World) (hxc : IsIface x) (hT : Tabs w) (hpr : ∀ w, Tabs w → Calls Tryd.prog 75 #[x] w fun e w' => e = .returned x' ∧ Below w.heap.size w w')
    (hv : ∀ w, (Instr.typeAssert x' 20 4 false).run Tryd.prog w = .ok v w) :
    Calls Tryd.prog 26 #[x] w fun e w' => e = .returned v ∧ Below w.heap.size w w' := by
  have c := assertB_yes x x' v 2 w hxc hT hpr hv
  clear hpr hv
  go_enter Tryd.func26, Tryd.ntmps26
  go_wp2_with fail
  refine c.mono ?_
  rintro e w1 ⟨rfl, hb1⟩
  clear c
  go_wp2
  go_ret
  exact ⟨rfl, hb1⟩
set_option maxHeartbeats 1000000 in
theorem bool_no (x x' : Value) (got : Int) (w : World) (hxc : IsIface x) (hT : Tabs w) (hpr : ∀ w, Tabs w → Calls Tryd.prog 75 #[x] w fun e w' => e = .returned x' ∧ Below w.heap.size w w')
    (hk : ∀ w, Tabs w → Calls Tryd.prog 19 #[x] w fun e w' => e = .returned (.int .i64 got) ∧ Below w.heap.size w w')
    (hv : ∃ o : Obj, ∀ w : World, (Instr.typeAssert x' 20 4 false).run Tryd.prog w = .halt (.panic (.iface 15 (.pointer (some ⟨w.heap.size, 0, none⟩)))) (w.alloc o)) :
    Calls Tryd.prog 26 #[x] w (Fell w 2 got) := by
  have c := assertB_no x x' 2 got w hxc hT hpr hk hv
  clear hpr hk hv
  go_enter Tryd.func26, Tryd.ntmps26
  go_wp2_with fail
  refine c.mono ?_
  rintro e w1 ⟨N, older, rfl, hrest⟩
  exact ⟨rfl, N, older, rfl, hrest⟩
/- ### Text -/
theorem fallS (u : TypeId) (v : Value) (h : u ≠ 9) : ∃ o : Obj, ∀ w : World, (Instr.typeAssert (.iface u v) 20 9 false).run Tryd.prog w = .halt (.panic (.iface 15 (.pointer (some ⟨w.heap.size, 0, none⟩)))) (w.alloc o) := by
  refine ⟨.cells #[typeHandle Tryd.prog 20, typeHandle Tryd.prog u, typeHandle Tryd.prog 9, .string ⟨#[]⟩] 159, fun w => ?_⟩
  have e : (Instr.typeAssert (.iface u v) 20 9 false).run Tryd.prog w = (if u = 9 then (pure v : Sem Value) else runtimePanic (.typeAssertion (some 20) (some u) 9 "")).run Tryd.prog w := by kernel_rfl
  have k : (runtimePanic (.typeAssertion (some 20) (some u) 9 "") : Sem Value).run Tryd.prog w = .halt (.panic (.iface 15 (.pointer (some ⟨w.heap.size, 0, none⟩)))) (w.alloc (.cells #[typeHandle Tryd.prog 20, typeHandle Tryd.prog u, typeHandle Tryd.prog 9, .string ⟨#[]⟩] 159)) := by kernel_rfl
  rw [e, if_neg h]
  exact k
theorem fallS_nil : ∃ o : Obj, ∀ w : World, (Instr.typeAssert .nilIface 20 9 false).run Tryd.prog w = .halt (.panic (.iface 15 (.pointer (some ⟨w.heap.size, 0, none⟩)))) (w.alloc o) :=
  ⟨.cells #[typeHandle Tryd.prog 20, .pointer none, typeHandle Tryd.prog 9, .string ⟨#[]⟩] 159, fun w => by kernel_rfl⟩
theorem holdS (v : Value) (w : World) : (Instr.typeAssert (.iface 9 v) 20 9 false).run Tryd.prog w = .ok v w := by kernel_rfl
set_option maxHeartbeats 1000000 in
theorem catchS_idle (p q : Addr) (w : World) :
    CallsD Tryd.prog 77 #[.pointer (some p), .pointer (some q)] .returning w fun e u' w' => e = .returned (.tuple #[]) ∧ u' = .returning ∧ w' = w := by
  have hn := is_nil
  refine callsD_of_wpS Tryd.func77 rfl fun c₀ cs hu => ?_
  apply wpS_seq
  apply wpS_region
  simp [wpOpsS, go_sem, recoverD, hu, Tryd.ntmps77, Exit.thenS]
  refine wpS_cond (t := false) (by simp [Act.eval, Array.replicate]) ?_
  simp only [Bool.false_eq_true, if_false]
  refine wpS_of_wp (wp_skip ?_)
  cases c₀
  simp_all [bodyPostS, results, Tryd.results77]

set_option maxHeartbeats 1000000 in
theorem catchS_falls (p q : Addr) (x : Value) (want got : Int) (u : TypeId) (pv : Value) (older : List PanicEntry) (w : World) (hp : w.cell? p = some (.int .i64 want)) (hq : w.cell? q = some x)
    (hk : ∀ w1, w1 = w ∨ w1 = w.drew → Calls Tryd.prog 19 #[x] w1 fun e w' => e = .returned (.int .i64 got) ∧ Below w.heap.size w w') :
    CallsD Tryd.prog 77 #[.pointer (some p), .pointer (some q)] (.panicking ({ v := .iface u pv, recovered := false } :: older)) w fun e u' w' =>
      ∃ N, e = .panicked [{ v := .iface 72 (.pointer (some ⟨N, 0, none⟩)), recovered := false }] ∧ u' = .panicking ({ v := .iface u pv, recovered := true } :: older) ∧ N < w'.heap.size ∧ w.heap.size ≤ N ∧
        w'.cell? ⟨N, 0, none⟩ = some (.int .i64 want) ∧ w'.cell? ⟨N, 1, none⟩ = some (.int .i64 got) ∧ Below w.heap.size w w' := by
  have hn := fun w => not_nil w u pv
  refine callsD_of_wpS Tryd.func77 rfl fun c₀ cs hu => ?_
  apply wpS_seq
  apply wpS_region
  simp [wpOpsS, go_sem, recoverD, hu, Tryd.ntmps77, Exit.thenS, -not_exists]
  refine wpS_cond (t := true) (by simp [Act.eval, Array.replicate]) ?_
  simp only [if_true]
  refine wpS_of_wp ?_
  refine Code.wp_mono (Q := PanQ w want got) ?_ ?_
  · rintro e a w' ⟨w1, hb1, rfl, hd, rfl⟩
    refine ⟨hd, _, rfl, w1.heap.size, rfl, rfl, by simp, hb1.size, ?_, ?_, hb1.alloc hb1.size _⟩
    · rw [cells_of_alloc]; rfl
    · rw [cells_of_alloc]; rfl
  show Code.wp _ _ _ { tmps := #[.pointer (some p), .pointer (some q), .iface u pv, .bool true, undef, undef, undef, undef, undef, undef], defers := [] } w
  have lp : p.block < w.heap.size := lt_of_cell hp
  have lq : q.block < w.heap.size := lt_of_cell hq
  refine wp_region_held_drew (S := fun w' => Below w.heap.size w w') (by kernel_rfl) ((Below.refl _ _).drew) (fun hHeld => ?_)
  refine held_take (i := 0) (v := ?_) rfl (by kernel_rfl) (by kernel_rfl) (by kernel_rfl) (fun _ _ _ h => h) (by rfl) hHeld ?_ ?_
  rotate_left
  · intro wz hSz; have k := (hSz.cell lp).trans hp; go_simp; try with_reducible rfl
  simp only [Act.put, List.setIfInBounds_toArray, List.set_cons_zero, List.set_cons_succ]
  refine held_take (i := 1) (v := ?_) rfl (by kernel_rfl) (by kernel_rfl) (by kernel_rfl) (fun _ _ _ h => h) (by rfl) hHeld ?_ ?_
  rotate_left
  · intro wz hSz; have k := (hSz.cell lq).trans hq; go_simp; try with_reducible rfl
  simp only [Act.put, List.setIfInBounds_toArray, List.set_cons_zero, List.set_cons_succ]
  refine held_call (i := 2) (by kernel_rfl) rfl (by rfl) (by go_simp; try with_reducible rfl) (hk _ (.inr rfl)) ?_
  rintro e wy ⟨rfl, hb1⟩
  refine ⟨_, rfl, hb1, ?_⟩
  replace hHeld := hb1
  simp only [Act.put, List.setIfInBounds_toArray, List.set_cons_zero, List.set_cons_succ]
  refine held_take (i := 3) (v := ?_) rfl (by kernel_rfl) (by kernel_rfl) (by kernel_rfl) (fun _ _ _ h => h) (by rfl) hHeld ?_ ?_
  rotate_left
  · intro wz hSz; go_simp; try with_reducible rfl
  simp only [Act.put, List.setIfInBounds_toArray, List.set_cons_zero, List.set_cons_succ]
  refine held_make (i := 4) (v := .pointer (some ⟨wy.heap.size, 0, none⟩)) (w' := wy.alloc (.cells #[.int .i64 want, .int .i64 got] 38)) (by kernel_rfl) rfl (by rfl) (by go_simp; try with_reducible rfl) (hHeld.alloc hHeld.size _) ?_
  simp only [Act.put, List.setIfInBounds_toArray, List.set_cons_zero, List.set_cons_succ]
  replace hHeld := hHeld.alloc hHeld.size (.cells #[.int .i64 want, .int .i64 got] 38)
  refine held_take (i := 5) (v := ?_) rfl (by kernel_rfl) (by kernel_rfl) (by kernel_rfl) (fun _ _ _ h => h) (by rfl) hHeld ?_ ?_
  rotate_left
  · intro wz hSz; go_simp; try with_reducible rfl
  simp only [Act.put, List.setIfInBounds_toArray, List.set_cons_zero, List.set_cons_succ]
  refine held_panic (i := 6) (v := .iface 72 (.pointer (some ⟨wy.heap.size, 0, none⟩))) (w' := wy.alloc (.cells #[.int .i64 want, .int .i64 got] 38)) (by kernel_rfl) rfl (by rfl) (by go_simp; try with_reducible rfl) ?_
  exact panQ_mk w want got wy _ hb1

set_option maxHeartbeats 2000000 in
set_option maxRecDepth 100000 in
theorem assertS_yes (x x' v : Value) (want : Int) (w : World) (hxc : IsIface x) (hT : Tabs w) (hpr : ∀ w, Tabs w → Calls Tryd.prog 75 #[x] w fun e w' => e = .returned x' ∧ Below w.heap.size w w')
    (hv : ∀ w, (Instr.typeAssert x' 20 9 false).run Tryd.prog w = .ok v w) :
    Calls Tryd.prog 53 #[x, .int .i64 want] w fun e w' => e = .returned v ∧ Below w.heap.size w w' := by
  have hmf : ∀ (fn : Fn) (first cap : Array Value) (w : World), (Instr.makeFunc fn first cap).run Tryd.prog w = .ok (.func fn first cap) w := fun _ _ _ _ => rfl
  have hb0 : Below w.heap.size w ((w.alloc (.cells #[x] 20)).alloc (.cells #[.int .i64 want] 3)) := (below_alloc w _).alloc (by simp) _
  have cP := hpr _ (hT.later hb0)
  clear hpr hT
  rcases hxc with rfl | ⟨u0, v0, rfl⟩
  all_goals
    go_enter_defers Tryd.func53, Tryd.ntmps53
    go_wp2_with fail
    refine cP.mono ?_
    rintro e w1 ⟨rfl, hb1⟩
    have hb2 := below_to hb0 hb1
    clear hb1 hb0 cP
    go_wp2
    refine leaves_cons (f := 77) (args := #[.pointer (some ⟨w.heap.size + 1, 0, none⟩), .pointer (some ⟨w.heap.size, 0, none⟩)]) (by simp) (by simp [go_sem]) ?_
    refine (catchS_idle _ _ _).mono ?_
    rintro e u' w'' ⟨rfl, rfl, rfl⟩
    refine ⟨v, ?_, rfl, hb2⟩
    simp [results, Tryd.results53, go_sem]
set_option maxHeartbeats 2000000 in
set_option maxRecDepth 100000 in
theorem assertS_no (x x' : Value) (want got : Int) (w : World) (hxc : IsIface x) (hT : Tabs w) (hpr : ∀ w, Tabs w → Calls Tryd.prog 75 #[x] w fun e w' => e = .returned x' ∧ Below w.heap.size w w')
    (hk : ∀ w, Tabs w → Calls Tryd.prog 19 #[x] w fun e w' => e = .returned (.int .i64 got) ∧ Below w.heap.size w w')
    (hv : ∃ o : Obj, ∀ w : World, (Instr.typeAssert x' 20 9 false).run Tryd.prog w = .halt (.panic (.iface 15 (.pointer (some ⟨w.heap.size, 0, none⟩)))) (w.alloc o)) :
    Calls Tryd.prog 53 #[x, .int .i64 want] w (Fell w want got) := by
  obtain ⟨o, hv⟩ := hv
  have hmf : ∀ (fn : Fn) (first cap : Array Value) (w : World), (Instr.makeFunc fn first cap).run Tryd.prog w = .ok (.func fn first cap) w := fun _ _ _ _ => rfl
  have hb0 : Below w.heap.size w ((w.alloc (.cells #[x] 20)).alloc (.cells #[.int .i64 want] 3)) := (below_alloc w _).alloc (by simp) _
  have cP := hpr _ (hT.later hb0)
  have HF := Lib.hid (fun (pv : Value) (w2 : World) hp hq hk' => catchS_falls ⟨w.heap.size + 1, 0, none⟩ ⟨w.heap.size, 0, none⟩ x want got 15 pv [] w2 hp hq hk')
  clear hpr
  rcases hxc with rfl | ⟨u0, v0, rfl⟩
  all_goals
    go_enter_defers Tryd.func53, Tryd.ntmps53
    go_wp2_with fail
    refine cP.mono ?_
    rintro e w1 ⟨rfl, hb1⟩
    obtain ⟨hx, hw, hz⟩ := two_boxes hb1
    have hb2 := below_to hb0 hb1
    have hb3 := hb2.alloc hb2.size o
    have HX := Lib.hid hx
    have HW := Lib.hid hw
    clear hb1 hb0 cP hx hw
    go_wp2
    refine leaves_cons (f := 77) (args := #[.pointer (some ⟨w.heap.size + 1, 0, none⟩), .pointer (some ⟨w.heap.size, 0, none⟩)]) (by simp) (by simp [go_sem]) ?_
    refine (HF.out _ _ ?_ ?_ ?_).mono ?_
    · rw [World.cell?_alloc_past _ _ _ hz]; exact HW.out
    · rw [World.cell?_alloc_past _ _ _ (Nat.lt_trans (Nat.lt_succ_self _) hz)]; exact HX.out
    · rintro w2 (rfl | rfl)
      · exact hk _ (hT.later hb3)
      · refine (hk _ (hT.later hb3.drew)).mono fun e w' ⟨he, hb⟩ => ⟨he, ?_⟩
        exact ((Below.refl _ _).drew).trans hb
    rintro e u' w'' ⟨N, rfl, rfl, h1, h2, h3, h4, h5⟩
    refine ⟨N, _, rfl, ?_, h1, ?_, h3, h4, below_to hb3 h5⟩
    · intro x hx; simp at hx; subst hx; rfl
    · have := hb3.size; omega

set_option maxHeartbeats 1000000 in
theorem text_yes (x x' v : Value) (w : World) (hxc : IsIface x) (hT : Tabs w) (hpr : ∀ w, Tabs w → Calls Tryd.prog 75 #[x] w fun e w' => e = .returned x' ∧ Below w.heap.size w w')
    (hv : ∀ w, (Instr.typeAssert x' 20 9 false).run Tryd.prog w = .ok v w) :
    Calls Tryd.prog 27 #[x] w fun e w' => e = .returned v ∧ Below w.heap.size w w' := by
  have c := assertS_yes x x' v 3 w hxc hT hpr hv
  clear hpr hv
  go_enter Tryd.func27, Tryd.ntmps27
  go_wp2_with fail
  refine c.mono ?_
  rintro e w1 ⟨rfl, hb1⟩
  clear c
  go_wp2
  go_ret
  exact ⟨rfl, hb1⟩
set_option maxHeartbeats 1000000 in
theorem text_no (x x' : Value) (got : Int) (w : World) (hxc : IsIface x) (hT : Tabs w) (hpr : ∀ w, Tabs w → Calls Tryd.prog 75 #[x] w fun e w' => e = .returned x' ∧ Below w.heap.size w w')
    (hk : ∀ w, Tabs w → Calls Tryd.prog 19 #[x] w fun e w' => e = .returned (.int .i64 got) ∧ Below w.heap.size w w')
    (hv : ∃ o : Obj, ∀ w : World, (Instr.typeAssert x' 20 9 false).run Tryd.prog w = .halt (.panic (.iface 15 (.pointer (some ⟨w.heap.size, 0, none⟩)))) (w.alloc o)) :
    Calls Tryd.prog 27 #[x] w (Fell w 3 got) := by
  have c := assertS_no x x' 3 got w hxc hT hpr hk hv
  clear hpr hk hv
  go_enter Tryd.func27, Tryd.ntmps27
  go_wp2_with fail
  refine c.mono ?_
  rintro e w1 ⟨N, older, rfl, hrest⟩
  exact ⟨rfl, N, older, rfl, hrest⟩
end Go.Proofs.YtfcigknalnmhcaaDoor
