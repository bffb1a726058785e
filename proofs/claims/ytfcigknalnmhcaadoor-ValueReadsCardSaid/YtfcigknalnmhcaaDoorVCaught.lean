/- The contract of the laws' own caught: what a call panics with. -/
import Derived.Test.YtfcigknalnmhcaaDoorVAssert
namespace Go.Proofs.YtfcigknalnmhcaaDoor
open Go.RowKit

theorem asW_yes (w : World) (v : Value) : (Instr.typeAssert (.iface 72 v) 20 72 true).run Tryd.prog w = .ok (.tuple #[v, .bool true]) w := by kernel_rfl
theorem ptr_not_nil (w : World) (a : Addr) : (binOp .neq 72 (.pointer (some a)) (.pointer none)).run Tryd.prog w = .ok (.bool true) w := by kernel_rfl

def CatchQ (w1 : World) (e : Exit) (a : Act) (w' : World) : Prop := e = .normal ∧ a.defers = [] ∧ w' = w1
set_option maxHeartbeats 400000 in
theorem caught_catch (N : Nat) (p q : Nat) (want got : Int) (older : List PanicEntry) (w : World) (hN0 : w.cell? ⟨N, 0, none⟩ = some (.int .i64 want)) (hN1 : w.cell? ⟨N, 1, none⟩ = some (.int .i64 got))
    (hp0 : w.cell? ⟨p, 0, none⟩ = some (.int .i64 0)) (hp1 : w.cell? ⟨p, 1, none⟩ = some (.int .i64 0)) (hq : w.cell? ⟨q, 0, none⟩ = some (.bool false))
    (fp0 : w.frozen? ⟨p, 0, none⟩ = false) (fp1 : w.frozen? ⟨p, 1, none⟩ = false) (fq : w.frozen? ⟨q, 0, none⟩ = false) (hqp : ¬ p = q) :
    CallsD Tryd.prog 50 #[.pointer (some ⟨p, 0, none⟩), .pointer (some ⟨q, 0, none⟩)] (.panicking ({ v := .iface 72 (.pointer (some ⟨N, 0, none⟩)), recovered := false } :: older)) w fun e u' w' =>
      e = .returned (.tuple #[]) ∧ u' = .panicking ({ v := .iface 72 (.pointer (some ⟨N, 0, none⟩)), recovered := true } :: older) ∧
        w' = ((w.setCell ⟨p, 0, none⟩ (.int .i64 want)).setCell ⟨p, 1, none⟩ (.int .i64 got)).setCell ⟨q, 0, none⟩ (.bool true) := by
  have hn := fun w => not_nil w 72 (.pointer (some ⟨N, 0, none⟩))
  have ha := fun w => asW_yes w (.pointer (some ⟨N, 0, none⟩))
  have hz := fun w => ptr_not_nil w ⟨N, 0, none⟩
  refine callsD_of_wpS Tryd.func50 rfl fun c₀ cs hu => ?_
  apply wpS_seq
  apply wpS_region
  simp [wpOpsS, go_sem, recoverD, hu, Tryd.ntmps50, Exit.thenS]
  refine wpS_of_wp ?_
  refine Code.wp_mono (Q := CatchQ (((w.setCell ⟨p, 0, none⟩ (.int .i64 want)).setCell ⟨p, 1, none⟩ (.int .i64 got)).setCell ⟨q, 0, none⟩ (.bool true))) ?_ ?_
  · rintro e a w' ⟨rfl, hd, rfl⟩
    refine ⟨hd, _, rfl, .tuple #[], ?_, rfl, rfl, rfl⟩
    simp [results, Tryd.results50, go_sem]
  rw [show (#[.pointer (some ⟨p, 0, none⟩), .pointer (some ⟨q, 0, none⟩)] ++ ((Array.replicate 19 undef).setIfInBounds 3 (.iface 72 (.pointer (some ⟨N, 0, none⟩)))).setIfInBounds 0 (.iface 72 (.pointer (some ⟨N, 0, none⟩))) : Array Value) = #[.pointer (some ⟨p, 0, none⟩), .pointer (some ⟨q, 0, none⟩), .iface 72 (.pointer (some ⟨N, 0, none⟩)), undef, undef, .iface 72 (.pointer (some ⟨N, 0, none⟩)), undef, undef, undef, undef, undef, undef, undef, undef, undef, undef, undef, undef, undef, undef, undef] by kernel_rfl]
  clear hu
  go_wp2
  exact ⟨rfl, rfl, rfl⟩

set_option maxHeartbeats 400000 in
theorem caught_idle (p q : Addr) (w : World) :
    CallsD Tryd.prog 50 #[.pointer (some p), .pointer (some q)] .returning w fun e u' w' => e = .returned (.tuple #[]) ∧ u' = .returning ∧ w' = w := by
  have hn := is_nil
  refine callsD_of_wpS Tryd.func50 rfl fun c₀ cs hu => ?_
  apply wpS_seq
  apply wpS_region
  simp [wpOpsS, go_sem, recoverD, hu, Tryd.ntmps50, Exit.thenS]
  refine wpS_of_wp ?_
  refine Code.wp_mono (Q := CatchQ w) ?_ ?_
  · rintro e a w' ⟨rfl, hd, rfl⟩
    refine ⟨hd, _, ?_, .tuple #[], ?_, rfl, hu, rfl⟩
    · cases c₀; simp_all
    · simp [results, Tryd.results50, go_sem]
  rw [show (#[.pointer (some p), .pointer (some q)] ++ ((Array.replicate 19 undef).setIfInBounds 3 (.nilIface)).setIfInBounds 0 (.nilIface) : Array Value) = #[.pointer (some p), .pointer (some q), .nilIface, undef, undef, .nilIface, undef, undef, undef, undef, undef, undef, undef, undef, undef, undef, undef, undef, undef, undef, undef] by kernel_rfl]
  clear hu
  go_wp2
  exact ⟨rfl, rfl, rfl⟩

theorem drop_all : ∀ l : List PanicEntry, (∀ x ∈ l, x.goexit = false) → l.dropWhile (fun x => !x.goexit) = []
  | [], _ => rfl
  | x :: l, h => by
    rw [List.dropWhile_cons, h x (by simp)]
    exact drop_all l fun y hy => h y (by simp [hy])
theorem pair_one {w w1 : World} {a b c : Value} {s t : TypeId} (hb : Below ((w.alloc (.cells #[a, b] s)).alloc (.cells #[c] t)).heap.size ((w.alloc (.cells #[a, b] s)).alloc (.cells #[c] t)) w1) :
    w1.cell? ⟨w.heap.size, 0, none⟩ = some a ∧ w1.cell? ⟨w.heap.size, 1, none⟩ = some b ∧ w1.frozen? ⟨w.heap.size, 0, none⟩ = false ∧ w1.frozen? ⟨w.heap.size, 1, none⟩ = false ∧
      w1.cell? ⟨w.heap.size + 1, 0, none⟩ = some c ∧ w1.frozen? ⟨w.heap.size + 1, 0, none⟩ = false ∧ w.heap.size + 1 < w1.heap.size := by
  have hz := hb.size
  rw [alloc_size, alloc_size] at hz
  have l0 : w.heap.size < (w.alloc (.cells #[a, b] s)).heap.size := by rw [alloc_size]; omega
  have l1 : w.heap.size < ((w.alloc (.cells #[a, b] s)).alloc (.cells #[c] t)).heap.size := by rw [alloc_size, alloc_size]; omega
  have l2 : w.heap.size + 1 < ((w.alloc (.cells #[a, b] s)).alloc (.cells #[c] t)).heap.size := by rw [alloc_size, alloc_size]; omega
  have e := cells_of_alloc (w.alloc (.cells #[a, b] s)) #[c] t 0
  rw [alloc_size] at e
  refine ⟨?_, ?_, ?_, ?_, ?_, ?_, by omega⟩
  · rw [hb.cell (p := ⟨w.heap.size, 0, none⟩) l1, World.cell?_alloc_past _ _ _ l0, cells_of_alloc]; rfl
  · rw [hb.cell (p := ⟨w.heap.size, 1, none⟩) l1, World.cell?_alloc_past _ _ _ l0, cells_of_alloc]; rfl
  · rw [hb.frozen (p := ⟨w.heap.size, 0, none⟩) l1, (below_alloc _ _).frozen (p := ⟨w.heap.size, 0, none⟩) l0]; simp
  · rw [hb.frozen (p := ⟨w.heap.size, 1, none⟩) l1, (below_alloc _ _).frozen (p := ⟨w.heap.size, 1, none⟩) l0]; simp
  · rw [hb.cell (p := ⟨w.heap.size + 1, 0, none⟩) l2, e]; rfl
  · rw [hb.frozen (p := ⟨w.heap.size + 1, 0, none⟩) l2]; simp

set_option maxHeartbeats 1000000 in
set_option maxRecDepth 100000 in
theorem caught_fell_awake (want got : Int) (w : World)
    (hf : ∀ w1, Below w.heap.size w w1 → Calls Tryd.prog 43 #[] w1 (Fell w1 want got)) :
    Calls Tryd.prog 23 #[.func (.func 43) #[] #[]] w fun e w' => e = .returned (.tuple #[.agg #[.int .i64 want, .int .i64 got], .bool true]) ∧ Below w.heap.size w w' := by
  have hmf : ∀ (fn : Fn) (first cap : Array Value) (w : World), (Instr.makeFunc fn first cap).run Tryd.prog w = .ok (.func fn first cap) w := fun _ _ _ _ => rfl
  have hb0 : Below w.heap.size w ((w.alloc (.cells #[.int .i64 0, .int .i64 0] 38)).alloc (.cells #[.bool false] 4)) := (below_alloc w _).alloc (by simp) _
  have cF := hf _ hb0
  clear hf
  go_enter_defers Tryd.func23, Tryd.ntmps23
  go_wp2_with fail
  refine cF.mono ?_
  rintro e w1 ⟨N, older, rfl, hgx, hN, hNw, hw0, hw1, hb1⟩
  have hb2 := below_to hb0 hb1
  obtain ⟨p0, p1, f0, f1, q0, fq, hz⟩ := pair_one hb1
  clear hb1 hb0 cF
  go_wp2
  refine leaves_cons (f := 50) (args := #[.pointer (some ⟨w.heap.size, 0, none⟩), .pointer (some ⟨w.heap.size + 1, 0, none⟩)]) (by simp) (by simp [go_sem]) ?_
  refine (caught_catch N w.heap.size (w.heap.size + 1) want got older w1 hw0 hw1 p0 p1 q0 f0 f1 fq (by omega)).mono ?_
  rintro e u' w'' ⟨rfl, rfl, rfl⟩
  have hdw : older.dropWhile (fun x => !x.goexit) = [] := drop_all older hgx
  have hset : settle (.panicking ({ v := .iface 72 (.pointer (some ⟨N, 0, none⟩)), recovered := true } :: older)) = .returning := by
    unfold settle; dsimp only; rw [hdw]
  show Leaves _ _ _ _ [] (settle _) _
  rw [hset]
  refine ⟨.tuple #[.agg #[.int .i64 want, .int .i64 got], .bool true], ?_, rfl, ((hb2.setCell (p := ⟨w.heap.size, 0, none⟩) (Nat.le_refl _) _).setCell (p := ⟨w.heap.size, 1, none⟩) (Nat.le_refl _) _).setCell (p := ⟨w.heap.size + 1, 0, none⟩) (Nat.le_succ _) _⟩
  simp [results, Tryd.results23, go_sem, p0, p1, q0]
end Go.Proofs.YtfcigknalnmhcaaDoor
