/- The contracts of the closure that ValueAsserts hands to caught: asserted to be what it is, it says so; else it falls. -/
import Derived.Test.YtfcigknalnmhcaaDoorVOdd
import Derived.Test.YtfcigknalnmhcaaDoorVAwake
import Derived.Test.YtfcigknalnmhcaaDoorVFall
import Derived.Deep.RegionWith
namespace Go.Proofs.YtfcigknalnmhcaaDoor
open Go.RowKit

/-- The cells that the closure reads. -/
structure Caps (w : World) (T X V G : Nat) (t : Int) (x : Value) (K m : Int) (s : ByteArray) : Prop where
  ct : w.cell? ⟨T, 0, none⟩ = some (.int .i64 t)
  cx : w.cell? ⟨X, 0, none⟩ = some x
  v : Three w V (.int .i64 K) (.int .i64 m) (.string s)
  cg : ∃ b, w.cell? ⟨G, 0, none⟩ = some (.bool b)
  fg : w.frozen? ⟨G, 0, none⟩ = false
theorem Caps.later {w w' : World} {T X V G : Nat} {t : Int} {x : Value} {K m : Int} {s : ByteArray} (h : Caps w T X V G t x K m s) (hb : Below w.heap.size w w') : Caps w' T X V G t x K m s := by
  obtain ⟨h1, h2, h3, ⟨b, h4⟩, h5⟩ := h
  have lg := lt_of_cell h4
  exact ⟨(hb.cell (p := ⟨T, 0, none⟩) (lt_of_cell h1)).trans h1, (hb.cell (p := ⟨X, 0, none⟩) (lt_of_cell h2)).trans h2, h3.later hb, ⟨b, (hb.cell (p := ⟨G, 0, none⟩) lg).trans h4⟩, (hb.frozen (p := ⟨G, 0, none⟩) lg).trans h5⟩
/-- The closure's end where all is well: good is set. -/
def Well (w : World) (G : Nat) (e : Ending) (w' : World) : Prop := e = .returned (.tuple #[]) ∧ ∃ w1, Below w.heap.size w w1 ∧ w' = w1.setCell ⟨G, 0, none⟩ (.bool true)

set_option maxHeartbeats 2000000 in
set_option maxRecDepth 100000 in
theorem closure_num (T X V G : Nat) (x : Value) (K m : Int) (s : ByteArray) (w : World) (hT : Tabs w) (h : Caps w T X V G 1 x K m s) (hx : IsIface x)
    (hc : ∀ w, Tabs w → Calls Tryd.prog 25 #[x] w fun e w' => e = .returned (.int .i64 m) ∧ Below w.heap.size w w') :
    Calls Tryd.prog 24 #[.pointer (some ⟨T, 0, none⟩), .pointer (some ⟨X, 0, none⟩), .pointer (some ⟨V, 0, none⟩), .pointer (some ⟨G, 0, none⟩)] w (Well w G) := by
  have hl := fun w1 (hb : Below w.heap.size w w1) => h.later hb
  obtain ⟨ct, cx, ⟨lv, v0, v1, v2, -, -, -⟩, ⟨b, cg⟩, fg⟩ := h
  have cc := hc w.drew (hT.later (Below.refl _ _).drew)
  rcases hx with rfl | ⟨u0, y0, rfl⟩
  all_goals
    clear hc hT
    go_enter Tryd.func24, Tryd.ntmps24
    go_wp2
    go_region_with (go_at_call 25; refine cc.mono ?_; rintro e w1 ⟨rfl, hb1⟩; have hbw : Below w.heap.size w w1 := (Below.refl _ _).drew.trans hb1; obtain ⟨ct1, cx1, ⟨lv1, v01, v11, v21, _, _, _⟩, ⟨b1, cg1⟩, fg1⟩ := hl w1 hbw; clear hb1)
    all_goals
      go_wp2
      go_end0
      exact ⟨rfl, w1, hbw, rfl⟩
set_option maxHeartbeats 2000000 in
set_option maxRecDepth 100000 in
theorem closure_truth (T X V G : Nat) (x : Value) (K : Int) (c : Bool) (s : ByteArray) (w : World) (hT : Tabs w) (h : Caps w T X V G 2 x K (b01 c) s) (hx : IsIface x)
    (hc : ∀ w, Tabs w → Calls Tryd.prog 26 #[x] w fun e w' => e = .returned (.bool c) ∧ Below w.heap.size w w') :
    Calls Tryd.prog 24 #[.pointer (some ⟨T, 0, none⟩), .pointer (some ⟨X, 0, none⟩), .pointer (some ⟨V, 0, none⟩), .pointer (some ⟨G, 0, none⟩)] w (Well w G) := by
  have hl := fun w1 (hb : Below w.heap.size w w1) => h.later hb
  obtain ⟨ct, cx, ⟨lv, v0, v1, v2, -, -, -⟩, ⟨b, cg⟩, fg⟩ := h
  have cc := hc w.drew (hT.later (Below.refl _ _).drew)
  rcases hx with rfl | ⟨u0, y0, rfl⟩
  all_goals
    clear hc hT
    have hcc : (b01 c == 1) = c := by cases c <;> rfl
    go_enter Tryd.func24, Tryd.ntmps24
    go_wp2
    go_region_with (go_at_call 26; refine cc.mono ?_; rintro e w1 ⟨rfl, hb1⟩; have hbw : Below w.heap.size w w1 := (Below.refl _ _).drew.trans hb1; obtain ⟨ct1, cx1, ⟨lv1, v01, v11, v21, _, _, _⟩, ⟨b1, cg1⟩, fg1⟩ := hl w1 hbw; clear hb1)
    all_goals
      go_wp2
      go_end0
      exact ⟨rfl, w1, hbw, rfl⟩
set_option maxHeartbeats 2000000 in
set_option maxRecDepth 100000 in
theorem closure_text (T X V G : Nat) (x : Value) (K m : Int) (s : ByteArray) (w : World) (hT : Tabs w) (h : Caps w T X V G 3 x K m s) (hx : IsIface x)
    (hc : ∀ w, Tabs w → Calls Tryd.prog 27 #[x] w fun e w' => e = .returned (.string s) ∧ Below w.heap.size w w') :
    Calls Tryd.prog 24 #[.pointer (some ⟨T, 0, none⟩), .pointer (some ⟨X, 0, none⟩), .pointer (some ⟨V, 0, none⟩), .pointer (some ⟨G, 0, none⟩)] w (Well w G) := by
  have hl := fun w1 (hb : Below w.heap.size w w1) => h.later hb
  obtain ⟨ct, cx, ⟨lv, v0, v1, v2, -, -, -⟩, ⟨b, cg⟩, fg⟩ := h
  have cc := hc w.drew (hT.later (Below.refl _ _).drew)
  rcases hx with rfl | ⟨u0, y0, rfl⟩
  all_goals
    clear hc hT
    go_enter Tryd.func24, Tryd.ntmps24
    go_wp2
    go_region_with (go_at_call 27; refine cc.mono ?_; rintro e w1 ⟨rfl, hb1⟩; have hbw : Below w.heap.size w w1 := (Below.refl _ _).drew.trans hb1; obtain ⟨ct1, cx1, ⟨lv1, v01, v11, v21, _, _, _⟩, ⟨b1, cg1⟩, fg1⟩ := hl w1 hbw; clear hb1)
    all_goals
      go_wp2
      go_end0
      exact ⟨rfl, w1, hbw, rfl⟩
set_option maxHeartbeats 2000000 in
set_option maxRecDepth 100000 in
theorem closure_num_falls (T X V G : Nat) (x : Value) (K m : Int) (s : ByteArray) (got : Int) (w : World) (hT : Tabs w) (h : Caps w T X V G 1 x K m s) (hx : IsIface x)
    (hc : ∀ w, Tabs w → Calls Tryd.prog 25 #[x] w (Fell w 1 got)) :
    Calls Tryd.prog 24 #[.pointer (some ⟨T, 0, none⟩), .pointer (some ⟨X, 0, none⟩), .pointer (some ⟨V, 0, none⟩), .pointer (some ⟨G, 0, none⟩)] w (Fell w 1 got) := by
  obtain ⟨ct, cx, ⟨lv, v0, v1, v2, -, -, -⟩, ⟨b, cg⟩, fg⟩ := h
  have lx := lt_of_cell cx
  rcases hx with rfl | ⟨u0, y0, rfl⟩
  all_goals
    go_enter Tryd.func24, Tryd.ntmps24
    go_wp2
    refine wp_region_held_drew (S := fun w' => Below w.heap.size w w') (by kernel_rfl) ((Below.refl _ _).drew) (fun hHeld => ?_)
    refine held_take (i := 0) (v := ?_) rfl (by kernel_rfl) (by kernel_rfl) (by kernel_rfl) (fun _ _ _ h => h) (by rfl) hHeld ?_ ?_
    rotate_left
    · intro wz hSz; have q := (hSz.cell (p := ⟨X, 0, none⟩) lx).trans cx; go_simp; try with_reducible rfl
    simp only [Act.put, List.setIfInBounds_toArray, List.set_cons_zero, List.set_cons_succ]
    refine held_take (i := 2) (v := ?_) rfl (by kernel_rfl) (by kernel_rfl) (by kernel_rfl) (fun _ _ _ h => h) (by rfl) hHeld ?_ ?_
    rotate_left
    · intro wz hSz; go_simp; try with_reducible rfl
    simp only [Act.put, List.setIfInBounds_toArray, List.set_cons_zero, List.set_cons_succ]
    refine held_take (i := 3) (v := ?_) rfl (by kernel_rfl) (by kernel_rfl) (by kernel_rfl) (fun _ _ _ h => h) (by rfl) hHeld ?_ ?_
    rotate_left
    · intro wz hSz; have q := (hSz.cell (p := ⟨V, 1, none⟩) lv).trans v1; go_simp; try with_reducible rfl
    simp only [Act.put, List.setIfInBounds_toArray, List.set_cons_zero, List.set_cons_succ]
    refine held_fall (i := 1) (by kernel_rfl) rfl (by rfl) (by go_simp; try with_reducible rfl) (hc _ (hT.later hHeld)) ?_
    rintro e w' hf
    obtain ⟨N, older, rfl, hrest⟩ := hf.from hHeld
    exact ⟨_, rfl, rfl, N, older, rfl, hrest⟩
set_option maxHeartbeats 2000000 in
set_option maxRecDepth 100000 in
theorem closure_truth_falls (T X V G : Nat) (x : Value) (K m : Int) (s : ByteArray) (got : Int) (w : World) (hT : Tabs w) (h : Caps w T X V G 2 x K m s) (hx : IsIface x)
    (hc : ∀ w, Tabs w → Calls Tryd.prog 26 #[x] w (Fell w 2 got)) :
    Calls Tryd.prog 24 #[.pointer (some ⟨T, 0, none⟩), .pointer (some ⟨X, 0, none⟩), .pointer (some ⟨V, 0, none⟩), .pointer (some ⟨G, 0, none⟩)] w (Fell w 2 got) := by
  obtain ⟨ct, cx, ⟨lv, v0, v1, v2, -, -, -⟩, ⟨b, cg⟩, fg⟩ := h
  have lx := lt_of_cell cx
  rcases hx with rfl | ⟨u0, y0, rfl⟩
  all_goals
    go_enter Tryd.func24, Tryd.ntmps24
    go_wp2
    refine wp_region_held_drew (S := fun w' => Below w.heap.size w w') (by kernel_rfl) ((Below.refl _ _).drew) (fun hHeld => ?_)
    refine held_take (i := 0) (v := ?_) rfl (by kernel_rfl) (by kernel_rfl) (by kernel_rfl) (fun _ _ _ h => h) (by rfl) hHeld ?_ ?_
    rotate_left
    · intro wz hSz; have q := (hSz.cell (p := ⟨X, 0, none⟩) lx).trans cx; go_simp; try with_reducible rfl
    simp only [Act.put, List.setIfInBounds_toArray, List.set_cons_zero, List.set_cons_succ]
    refine held_take (i := 2) (v := ?_) rfl (by kernel_rfl) (by kernel_rfl) (by kernel_rfl) (fun _ _ _ h => h) (by rfl) hHeld ?_ ?_
    rotate_left
    · intro wz hSz; go_simp; try with_reducible rfl
    simp only [Act.put, List.setIfInBounds_toArray, List.set_cons_zero, List.set_cons_succ]
    refine held_take (i := 3) (v := ?_) rfl (by kernel_rfl) (by kernel_rfl) (by kernel_rfl) (fun _ _ _ h => h) (by rfl) hHeld ?_ ?_
    rotate_left
    · intro wz hSz; have q := (hSz.cell (p := ⟨V, 1, none⟩) lv).trans v1; go_simp; try with_reducible rfl
    simp only [Act.put, List.setIfInBounds_toArray, List.set_cons_zero, List.set_cons_succ]
    refine held_take (i := 4) (v := ?_) rfl (by kernel_rfl) (by kernel_rfl) (by kernel_rfl) (fun _ _ _ h => h) (by rfl) hHeld ?_ ?_
    rotate_left
    · intro wz hSz; go_simp; try with_reducible rfl
    simp only [Act.put, List.setIfInBounds_toArray, List.set_cons_zero, List.set_cons_succ]
    refine held_fall (i := 1) (by kernel_rfl) rfl (by rfl) (by go_simp; try with_reducible rfl) (hc _ (hT.later hHeld)) ?_
    rintro e w' hf
    obtain ⟨N, older, rfl, hrest⟩ := hf.from hHeld
    exact ⟨_, rfl, rfl, N, older, rfl, hrest⟩
set_option maxHeartbeats 2000000 in
set_option maxRecDepth 100000 in
theorem closure_text_falls (T X V G : Nat) (x : Value) (K m : Int) (s : ByteArray) (got : Int) (w : World) (hT : Tabs w) (h : Caps w T X V G 3 x K m s) (hx : IsIface x)
    (hc : ∀ w, Tabs w → Calls Tryd.prog 27 #[x] w (Fell w 3 got)) :
    Calls Tryd.prog 24 #[.pointer (some ⟨T, 0, none⟩), .pointer (some ⟨X, 0, none⟩), .pointer (some ⟨V, 0, none⟩), .pointer (some ⟨G, 0, none⟩)] w (Fell w 3 got) := by
  obtain ⟨ct, cx, ⟨lv, v0, v1, v2, -, -, -⟩, ⟨b, cg⟩, fg⟩ := h
  have lx := lt_of_cell cx
  rcases hx with rfl | ⟨u0, y0, rfl⟩
  all_goals
    go_enter Tryd.func24, Tryd.ntmps24
    go_wp2
    refine wp_region_held_drew (S := fun w' => Below w.heap.size w w') (by kernel_rfl) ((Below.refl _ _).drew) (fun hHeld => ?_)
    refine held_take (i := 0) (v := ?_) rfl (by kernel_rfl) (by kernel_rfl) (by kernel_rfl) (fun _ _ _ h => h) (by rfl) hHeld ?_ ?_
    rotate_left
    · intro wz hSz; have q := (hSz.cell (p := ⟨X, 0, none⟩) lx).trans cx; go_simp; try with_reducible rfl
    simp only [Act.put, List.setIfInBounds_toArray, List.set_cons_zero, List.set_cons_succ]
    refine held_take (i := 2) (v := ?_) rfl (by kernel_rfl) (by kernel_rfl) (by kernel_rfl) (fun _ _ _ h => h) (by rfl) hHeld ?_ ?_
    rotate_left
    · intro wz hSz; go_simp; try with_reducible rfl
    simp only [Act.put, List.setIfInBounds_toArray, List.set_cons_zero, List.set_cons_succ]
    refine held_take (i := 3) (v := ?_) rfl (by kernel_rfl) (by kernel_rfl) (by kernel_rfl) (fun _ _ _ h => h) (by rfl) hHeld ?_ ?_
    rotate_left
    · intro wz hSz; have q := (hSz.cell (p := ⟨V, 2, none⟩) lv).trans v2; go_simp; try with_reducible rfl
    simp only [Act.put, List.setIfInBounds_toArray, List.set_cons_zero, List.set_cons_succ]
    refine held_fall (i := 1) (by kernel_rfl) rfl (by rfl) (by go_simp; try with_reducible rfl) (hc _ (hT.later hHeld)) ?_
    rintro e w' hf
    obtain ⟨N, older, rfl, hrest⟩ := hf.from hHeld
    exact ⟨_, rfl, rfl, N, older, rfl, hrest⟩
end Go.Proofs.YtfcigknalnmhcaaDoor
