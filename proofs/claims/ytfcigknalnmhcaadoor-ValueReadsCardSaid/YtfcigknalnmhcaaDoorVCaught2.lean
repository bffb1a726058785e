/- The contracts of caught over the closure of ValueAsserts: it falls, or it is well. -/
import Derived.Test.YtfcigknalnmhcaaDoorVClosure
namespace Go.Proofs.YtfcigknalnmhcaaDoor
open Go.RowKit

theorem other_block {w : World} {p q : Addr} {v : Value} (h : ¬ p.block = q.block) : (w.setCell p v).cell? q = w.cell? q := World.cell?_setCell_other _ _ _ _ (fun e => h (by rw [e]))
/-- What agrees below a block number still does, when the same cell is set in both. -/
theorem below_set_both {B : Nat} {w w1 : World} (h : Below B w w1) (p : Addr) (v : Value) : Below B (w.setCell p v) (w1.setCell p v) := by
  refine ⟨h.os, h.tape, h.output, ?_, fun k hk => ?_⟩
  · simp only [World.setCell, Array.size_modify]; exact h.size
  · simp only [World.setCell, Array.getElem?_modify, h.block k hk]

set_option maxHeartbeats 1000000 in
set_option maxRecDepth 100000 in
theorem caught_fell_asserts (T X V G : Nat) (want got : Int) (w : World)
    (hf : ∀ w1, Below w.heap.size w w1 → Calls Tryd.prog 24 #[.pointer (some ⟨T, 0, none⟩), .pointer (some ⟨X, 0, none⟩), .pointer (some ⟨V, 0, none⟩), .pointer (some ⟨G, 0, none⟩)] w1 (Fell w1 want got)) :
    Calls Tryd.prog 23 #[.func (.func 24) #[] #[.pointer (some ⟨T, 0, none⟩), .pointer (some ⟨X, 0, none⟩), .pointer (some ⟨V, 0, none⟩), .pointer (some ⟨G, 0, none⟩)]] w fun e w' => e = .returned (.tuple #[.agg #[.int .i64 want, .int .i64 got], .bool true]) ∧ Below w.heap.size w w' := by
  have hmf : ∀ (fn : Fn) (first cap : Array Value) (w : World), (Instr.makeFunc fn first cap).run Tryd.prog w = .ok (.func fn first cap) w := fun _ _ _ _ => rfl
  have hb0 : Below w.heap.size w ((w.alloc (.cells #[.int .i64 0, .int .i64 0] 38)).alloc (.cells #[.bool false] 4)) := (below_alloc w _).alloc (by simp) _
  have cF := hf _ hb0
  clear hf
  go_enter_defers Tryd.func23, Tryd.ntmps23
  go_wp2_with fail
  refine cF.mono ?_
  rintro e w1 ⟨N, older, rfl, hgx, hN, hNw, hw0, hw1, hb1⟩
  have hb2 := below_to hb0 hb1
  obtain ⟨p0, p1, f0, f1, q0, fq, hz⟩ := pair_one hb1
  clear hb1 hb0 cF
  go_wp2
  refine leaves_cons (f := 50) (args := #[.pointer (some ⟨w.heap.size, 0, none⟩), .pointer (some ⟨w.heap.size + 1, 0, none⟩)]) (by simp) (by simp [go_sem]) ?_
  refine (caught_catch N w.heap.size (w.heap.size + 1) want got older w1 hw0 hw1 p0 p1 q0 f0 f1 fq (by omega)).mono ?_
  rintro e u' w'' ⟨rfl, rfl, rfl⟩
  have hdw : older.dropWhile (fun x => !x.goexit) = [] := drop_all older hgx
  have hset : settle (.panicking ({ v := .iface 72 (.pointer (some ⟨N, 0, none⟩)), recovered := true } :: older)) = .returning := by
    unfold settle; dsimp only; rw [hdw]
  show Leaves _ _ _ _ [] (settle _) _
  rw [hset]
  refine ⟨.tuple #[.agg #[.int .i64 want, .int .i64 got], .bool true], ?_, rfl, ((hb2.setCell (p := ⟨w.heap.size, 0, none⟩) (Nat.le_refl _) _).setCell (p := ⟨w.heap.size, 1, none⟩) (Nat.le_refl _) _).setCell (p := ⟨w.heap.size + 1, 0, none⟩) (Nat.le_succ _) _⟩
  simp [results, Tryd.results23, go_sem, p0, p1, q0]

set_option maxHeartbeats 1000000 in
set_option maxRecDepth 100000 in
theorem caught_ok_asserts (T X V G : Nat) (w : World) (hG : G < w.heap.size)
    (hf : ∀ w1, Below w.heap.size w w1 → Calls Tryd.prog 24 #[.pointer (some ⟨T, 0, none⟩), .pointer (some ⟨X, 0, none⟩), .pointer (some ⟨V, 0, none⟩), .pointer (some ⟨G, 0, none⟩)] w1 (Well w1 G)) :
    Calls Tryd.prog 23 #[.func (.func 24) #[] #[.pointer (some ⟨T, 0, none⟩), .pointer (some ⟨X, 0, none⟩), .pointer (some ⟨V, 0, none⟩), .pointer (some ⟨G, 0, none⟩)]] w fun e w' =>
      e = .returned (.tuple #[.agg #[.int .i64 0, .int .i64 0], .bool false]) ∧ Below w.heap.size (w.setCell ⟨G, 0, none⟩ (.bool true)) w' := by
  have hmf : ∀ (fn : Fn) (first cap : Array Value) (w : World), (Instr.makeFunc fn first cap).run Tryd.prog w = .ok (.func fn first cap) w := fun _ _ _ _ => rfl
  have hb0 : Below w.heap.size w ((w.alloc (.cells #[.int .i64 0, .int .i64 0] 38)).alloc (.cells #[.bool false] 4)) := (below_alloc w _).alloc (by simp) _
  have cF := hf _ hb0
  clear hf
  go_enter_defers Tryd.func23, Tryd.ntmps23
  go_wp2_with fail
  refine cF.mono ?_
  rintro e w2 ⟨rfl, w1, hb1, rfl⟩
  have hb2 := below_set_both (below_to hb0 hb1) ⟨G, 0, none⟩ (.bool true)
  obtain ⟨p0, p1, f0, f1, q0, fq, hz⟩ := pair_one hb1
  have hne : ¬ G = w.heap.size := by omega
  have hne2 : ¬ G = w.heap.size + 1 := by omega
  have p0' : (w1.setCell ⟨G, 0, none⟩ (.bool true)).cell? ⟨w.heap.size, 0, none⟩ = some (.int .i64 0) := by rw [other_block hne]; exact p0
  have p1' : (w1.setCell ⟨G, 0, none⟩ (.bool true)).cell? ⟨w.heap.size, 1, none⟩ = some (.int .i64 0) := by rw [other_block hne]; exact p1
  have q0' : (w1.setCell ⟨G, 0, none⟩ (.bool true)).cell? ⟨w.heap.size + 1, 0, none⟩ = some (.bool false) := by rw [other_block hne2]; exact q0
  have f0' : (w1.setCell ⟨G, 0, none⟩ (.bool true)).frozen? ⟨w.heap.size, 0, none⟩ = false := by simpa using f0
  have f1' : (w1.setCell ⟨G, 0, none⟩ (.bool true)).frozen? ⟨w.heap.size, 1, none⟩ = false := by simpa using f1
  have fq' : (w1.setCell ⟨G, 0, none⟩ (.bool true)).frozen? ⟨w.heap.size + 1, 0, none⟩ = false := by simpa using fq
  obtain ⟨w3, hw3⟩ : ∃ w3, w1.setCell ⟨G, 0, none⟩ (.bool true) = w3 := ⟨_, rfl⟩
  rw [hw3] at hb2 p0' p1' q0' f0' f1' fq' ⊢
  clear hw3 hb1 hb0 cF p0 p1 q0 f0 f1 fq
  go_wp2
  refine leaves_cons (f := 50) (args := #[.pointer (some ⟨w.heap.size, 0, none⟩), .pointer (some ⟨w.heap.size + 1, 0, none⟩)]) (by simp) (by simp [go_sem]) ?_
  refine (caught_idle _ _ _).mono ?_
  rintro e u' w'' ⟨rfl, rfl, rfl⟩
  refine ⟨.tuple #[.agg #[.int .i64 0, .int .i64 0], .bool false], ?_, rfl, ((hb2.setCell (p := ⟨w.heap.size, 0, none⟩) (Nat.le_refl _) _).setCell (p := ⟨w.heap.size, 1, none⟩) (Nat.le_refl _) _).setCell (p := ⟨w.heap.size + 1, 0, none⟩) (Nat.le_succ _) _⟩
  simp [results, Tryd.results23, go_sem, p0', p1', q0']
end Go.Proofs.YtfcigknalnmhcaaDoor
