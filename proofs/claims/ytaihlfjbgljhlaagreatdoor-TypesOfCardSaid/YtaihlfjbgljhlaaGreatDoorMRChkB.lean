/- palaverref07.look, Check: the document's own Check. -/
import Derived.Test.YtaihlfjbgljhlaaGreatDoorGW
namespace Go.Proofs.YtaihlfjbgljhlaaGreatDoor
open Go.RowKit

/-- How look ends. -/
def LookEnd (w : World) (g : Nat) (d : Nat) (n : Int) (e : Ex) (en : Ending) (w' : World) : Prop :=
  ∃ m : Int, en = .returned (.bool (lookE n d e)) ∧ Away g w w' ∧ Cnt w' g m ∧ n ≤ m ∧ m ≤ 129 ∧ (lookE n d e = true → m = n + (nodes e : Int))
/-- While the kids are gone through. -/
def KLook (w : World) (g : Nat) (d : Nat) (n : Int) (hk : Bool) (ks : List Ex) (R : Bool) (j : Nat) (wr : World) : Prop :=
  ∃ m : Int, Cnt wr g m ∧ Away g w wr ∧ m ≤ 128 ∧ n + 1 ≤ m ∧ m + (nodesL (ks.drop j) : Int) = n + 1 + (nodesL ks : Int) ∧ lookL hk m (d + 1) (ks.drop j) = R
theorem len_eqv {a b : Nat} : ((a : Int) == (b : Int)) = decide (a = b) := by
  by_cases h : a = b
  · rw [decide_eq_true h, h]; simp
  · rw [decide_eq_false h]; exact beq_eq_false_iff_ne.2 (by omega)
theorem away_dr {g : Nat} {w w' : World} (h : Away g w w') (q : Nat) : Away g w (w'.drewN q) := ⟨h.os, h.tape, h.output, h.size, h.block⟩
theorem cnt_dr {w : World} {g : Nat} {n : Int} (h : Cnt w g n) (q : Nat) : Cnt (w.drewN q) g n := h
theorem arityZ_ok {op : Int} {k : Nat} (h : arity op = some k) : arityZ op = (k : Int) := by unfold arityZ; rw [h]
theorem arityZ_no {op : Int} (h : arity op = none) : arityZ op = -1 := by unfold arityZ; rw [h]
set_option maxHeartbeats 4000000 in
set_option maxRecDepth 100000 in
theorem look_bad1 (op m : Int) (s : List UInt8) (ks : List Ex) (v : Value) (S : Nat → Prop) (w : World) (d : Nat) (n : Int) (g : Nat) (hv : ExIn w S (.mk op m s ks) v) (_hSg : ¬ S g) (hC : Cnt w g n) (hn0 : 0 ≤ n) (hn1 : n ≤ 128)
    (hEa : ∀ w', Away g w w' → EnvP w') (hn : 128 < n + 1) :
    Calls Tryz.prog 23 #[v, .int .i64 (d : Int), .pointer (some ⟨g, 0, none⟩)] w (LookEnd w g d n (.mk op m s ks)) := by
    have hvv := hv
    obtain ⟨ao, cap, rfl, h2, h3, hr, hk⟩ := hv.get
    unfold Ex.op Ex.num Ex.str Ex.kids at *
    dsimp only at *
    have hgw := hC.lt
    have hX := four_new w (.int .i64 op) (.int .i64 m) (.string ⟨s.toArray⟩) (.slice ao ks.length cap) 24
    have hbX := below_alloc w (.cells #[.int .i64 op, .int .i64 m, .string ⟨s.toArray⟩, .slice ao ks.length cap] 24)
    have hCX := hC.later hbX
    have hsX := alloc_size w (.cells #[.int .i64 op, .int .i64 m, .string ⟨s.toArray⟩, .slice ao ks.length cap] 24)
    have hkX : 0 < ks.length → ∃ g2 o, ao = some ⟨g2, o, none⟩ ∧ S g2 ∧ g2 < (w.alloc (.cells #[.int .i64 op, .int .i64 m, .string ⟨s.toArray⟩, .slice ao ks.length cap] 24)).heap.size ∧ RowIn (w.alloc (.cells #[.int .i64 op, .int .i64 m, .string ⟨s.toArray⟩, .slice ao ks.length cap] 24)) S g2 o ks := fun h0 => by
      obtain ⟨g2, o, a, b, c, r⟩ := hk h0
      exact ⟨g2, o, a, b, Nat.lt_of_lt_of_le c hbX.size, RowIn.stays (.of hbX) ks g2 o b c r⟩
    obtain ⟨wX, hwX⟩ : ∃ wX, w.alloc (.cells #[.int .i64 op, .int .i64 m, .string ⟨s.toArray⟩, .slice ao ks.length cap] 24) = wX := ⟨_, rfl⟩
    rw [hwX] at hX hbX hCX hkX hsX
    have c0 := hCX.cell
    have f0 := hCX.fr
    have hwr : IntKind.i64.wrap (n + 1) = n + 1 := IntWalk.i64_in _ (by omega)
    have hC1 := hCX.set (n + 1)
    have hA1 := (Away.refl g wX).set 0 (.int .i64 (n + 1))
    have hX1 := hX.away hA1 (by omega)
    have hEX : ∀ w', Away g wX w' → EnvP w' := fun w' h => hEa w' ((Away.of hbX (g := g)).trans h)
    have HEX := Lib.hid hEX
    have HEND : Hid (∀ (q : Int) (w' : World), Away g wX w' → Cnt w' g q → n ≤ q → q ≤ 129 → lookE n d (.mk op m s ks) = false → LookEnd w g d n (.mk op m s ks) (.returned (.bool false)) w') := Lib.hid (fun q w' ha hc h1 h2 h3 =>
      ⟨q, by rw [h3], (Away.of hbX (g := g)).trans ha, hc, h1, h2, fun h => by rw [h3] at h; cases h⟩)
    have HYES : Hid (∀ (q : Int) (w' : World), Away g wX w' → Cnt w' g q → n ≤ q → q ≤ 129 → lookE n d (.mk op m s ks) = true → q = n + 1 + (nodesL ks : Int) → LookEnd w g d n (.mk op m s ks) (.returned (.bool true)) w') := Lib.hid (fun q w' ha hc h1 h2 h3 h4 =>
      ⟨q, by rw [h3], (Away.of hbX (g := g)).trans ha, hc, h1, h2, fun _ => by rw [nodes]; push_cast; omega⟩)
    have HC1 := Lib.hid hC1
    have HA1 := Lib.hid hA1
    have HX1 := Lib.hid hX1
    obtain ⟨-, y0, y1, y2, y3, -⟩ := hX1
    have hX' := hX
    obtain ⟨-, x0, x1, x2, x3, -⟩ := hX'
    have cA := fun w => arity_any op w
    have G := Lib.hid (show n ≤ n + 1 ∧ n + 1 ≤ 129 by omega)
    have HL := Lib.hid (lookE_bad (m := n) (d := d) (op := op) (n := m) (s := s) (ks := ks) (.inl hn))
    clear hX hvv hv hk hkX hC hCX hC1 hA1 hbX hEX hEa cA
    go_enter Tryz.func23, Tryz.ntmps23
    go_wp2_with fail
    go_quiet (fail)
    go_wp2_with fail
    exact bodyPost_ret (v := .bool false) (by simp [results, Tryz.results23, go_sem]) rfl (HEND.out (n + 1) _ (away_dr HA1.out _) (cnt_dr HC1.out _) G.out.1 G.out.2 HL.out)
set_option maxHeartbeats 4000000 in
set_option maxRecDepth 100000 in
theorem look_bad2 (op m : Int) (s : List UInt8) (ks : List Ex) (v : Value) (S : Nat → Prop) (w : World) (d : Nat) (n : Int) (g : Nat) (hv : ExIn w S (.mk op m s ks) v) (_hSg : ¬ S g) (hC : Cnt w g n) (hn0 : 0 ≤ n) (hn1 : n ≤ 128)
    (hEa : ∀ w', Away g w w' → EnvP w') (hn : ¬ 128 < n + 1) (hd : 24 < d) :
    Calls Tryz.prog 23 #[v, .int .i64 (d : Int), .pointer (some ⟨g, 0, none⟩)] w (LookEnd w g d n (.mk op m s ks)) := by
    have hvv := hv
    obtain ⟨ao, cap, rfl, h2, h3, hr, hk⟩ := hv.get
    unfold Ex.op Ex.num Ex.str Ex.kids at *
    dsimp only at *
    have hgw := hC.lt
    have hX := four_new w (.int .i64 op) (.int .i64 m) (.string ⟨s.toArray⟩) (.slice ao ks.length cap) 24
    have hbX := below_alloc w (.cells #[.int .i64 op, .int .i64 m, .string ⟨s.toArray⟩, .slice ao ks.length cap] 24)
    have hCX := hC.later hbX
    have hsX := alloc_size w (.cells #[.int .i64 op, .int .i64 m, .string ⟨s.toArray⟩, .slice ao ks.length cap] 24)
    have hkX : 0 < ks.length → ∃ g2 o, ao = some ⟨g2, o, none⟩ ∧ S g2 ∧ g2 < (w.alloc (.cells #[.int .i64 op, .int .i64 m, .string ⟨s.toArray⟩, .slice ao ks.length cap] 24)).heap.size ∧ RowIn (w.alloc (.cells #[.int .i64 op, .int .i64 m, .string ⟨s.toArray⟩, .slice ao ks.length cap] 24)) S g2 o ks := fun h0 => by
      obtain ⟨g2, o, a, b, c, r⟩ := hk h0
      exact ⟨g2, o, a, b, Nat.lt_of_lt_of_le c hbX.size, RowIn.stays (.of hbX) ks g2 o b c r⟩
    obtain ⟨wX, hwX⟩ : ∃ wX, w.alloc (.cells #[.int .i64 op, .int .i64 m, .string ⟨s.toArray⟩, .slice ao ks.length cap] 24) = wX := ⟨_, rfl⟩
    rw [hwX] at hX hbX hCX hkX hsX
    have c0 := hCX.cell
    have f0 := hCX.fr
    have hwr : IntKind.i64.wrap (n + 1) = n + 1 := IntWalk.i64_in _ (by omega)
    have hC1 := hCX.set (n + 1)
    have hA1 := (Away.refl g wX).set 0 (.int .i64 (n + 1))
    have hX1 := hX.away hA1 (by omega)
    have hEX : ∀ w', Away g wX w' → EnvP w' := fun w' h => hEa w' ((Away.of hbX (g := g)).trans h)
    have HEX := Lib.hid hEX
    have HEND : Hid (∀ (q : Int) (w' : World), Away g wX w' → Cnt w' g q → n ≤ q → q ≤ 129 → lookE n d (.mk op m s ks) = false → LookEnd w g d n (.mk op m s ks) (.returned (.bool false)) w') := Lib.hid (fun q w' ha hc h1 h2 h3 =>
      ⟨q, by rw [h3], (Away.of hbX (g := g)).trans ha, hc, h1, h2, fun h => by rw [h3] at h; cases h⟩)
    have HYES : Hid (∀ (q : Int) (w' : World), Away g wX w' → Cnt w' g q → n ≤ q → q ≤ 129 → lookE n d (.mk op m s ks) = true → q = n + 1 + (nodesL ks : Int) → LookEnd w g d n (.mk op m s ks) (.returned (.bool true)) w') := Lib.hid (fun q w' ha hc h1 h2 h3 h4 =>
      ⟨q, by rw [h3], (Away.of hbX (g := g)).trans ha, hc, h1, h2, fun _ => by rw [nodes]; push_cast; omega⟩)
    have HC1 := Lib.hid hC1
    have HA1 := Lib.hid hA1
    have HX1 := Lib.hid hX1
    obtain ⟨-, y0, y1, y2, y3, -⟩ := hX1
    have hX' := hX
    obtain ⟨-, x0, x1, x2, x3, -⟩ := hX'
    have cA := fun w => arity_any op w
    have G := Lib.hid (show n ≤ n + 1 ∧ n + 1 ≤ 129 by omega)
    have HL := Lib.hid (lookE_bad (m := n) (d := d) (op := op) (n := m) (s := s) (ks := ks) (.inr (.inl hd)))
    have hdz : (24 : Int) < (d : Int) := by omega
    clear hX hvv hv hk hkX hC hCX hC1 hA1 hbX hEX hEa cA
    go_enter Tryz.func23, Tryz.ntmps23
    go_wp2_with fail
    go_quiet (fail)
    go_wp2_with fail
    exact bodyPost_ret (v := .bool false) (by simp [results, Tryz.results23, go_sem]) rfl (HEND.out (n + 1) _ (away_dr HA1.out _) (cnt_dr HC1.out _) G.out.1 G.out.2 HL.out)
set_option maxHeartbeats 4000000 in
set_option maxRecDepth 100000 in
theorem look_bad3 (op m : Int) (s : List UInt8) (ks : List Ex) (v : Value) (S : Nat → Prop) (w : World) (d : Nat) (n : Int) (g : Nat) (hv : ExIn w S (.mk op m s ks) v) (_hSg : ¬ S g) (hC : Cnt w g n) (hn0 : 0 ≤ n) (hn1 : n ≤ 128)
    (hEa : ∀ w', Away g w w' → EnvP w') (hn : ¬ 128 < n + 1) (hd : ¬ 24 < d) (har : arity op = none) :
    Calls Tryz.prog 23 #[v, .int .i64 (d : Int), .pointer (some ⟨g, 0, none⟩)] w (LookEnd w g d n (.mk op m s ks)) := by
    have hvv := hv
    obtain ⟨ao, cap, rfl, h2, h3, hr, hk⟩ := hv.get
    unfold Ex.op Ex.num Ex.str Ex.kids at *
    dsimp only at *
    have hgw := hC.lt
    have hX := four_new w (.int .i64 op) (.int .i64 m) (.string ⟨s.toArray⟩) (.slice ao ks.length cap) 24
    have hbX := below_alloc w (.cells #[.int .i64 op, .int .i64 m, .string ⟨s.toArray⟩, .slice ao ks.length cap] 24)
    have hCX := hC.later hbX
    have hsX := alloc_size w (.cells #[.int .i64 op, .int .i64 m, .string ⟨s.toArray⟩, .slice ao ks.length cap] 24)
    have hkX : 0 < ks.length → ∃ g2 o, ao = some ⟨g2, o, none⟩ ∧ S g2 ∧ g2 < (w.alloc (.cells #[.int .i64 op, .int .i64 m, .string ⟨s.toArray⟩, .slice ao ks.length cap] 24)).heap.size ∧ RowIn (w.alloc (.cells #[.int .i64 op, .int .i64 m, .string ⟨s.toArray⟩, .slice ao ks.length cap] 24)) S g2 o ks := fun h0 => by
      obtain ⟨g2, o, a, b, c, r⟩ := hk h0
      exact ⟨g2, o, a, b, Nat.lt_of_lt_of_le c hbX.size, RowIn.stays (.of hbX) ks g2 o b c r⟩
    obtain ⟨wX, hwX⟩ : ∃ wX, w.alloc (.cells #[.int .i64 op, .int .i64 m, .string ⟨s.toArray⟩, .slice ao ks.length cap] 24) = wX := ⟨_, rfl⟩
    rw [hwX] at hX hbX hCX hkX hsX
    have c0 := hCX.cell
    have f0 := hCX.fr
    have hwr : IntKind.i64.wrap (n + 1) = n + 1 := IntWalk.i64_in _ (by omega)
    have hC1 := hCX.set (n + 1)
    have hA1 := (Away.refl g wX).set 0 (.int .i64 (n + 1))
    have hX1 := hX.away hA1 (by omega)
    have hEX : ∀ w', Away g wX w' → EnvP w' := fun w' h => hEa w' ((Away.of hbX (g := g)).trans h)
    have HEX := Lib.hid hEX
    have HEND : Hid (∀ (q : Int) (w' : World), Away g wX w' → Cnt w' g q → n ≤ q → q ≤ 129 → lookE n d (.mk op m s ks) = false → LookEnd w g d n (.mk op m s ks) (.returned (.bool false)) w') := Lib.hid (fun q w' ha hc h1 h2 h3 =>
      ⟨q, by rw [h3], (Away.of hbX (g := g)).trans ha, hc, h1, h2, fun h => by rw [h3] at h; cases h⟩)
    have HYES : Hid (∀ (q : Int) (w' : World), Away g wX w' → Cnt w' g q → n ≤ q → q ≤ 129 → lookE n d (.mk op m s ks) = true → q = n + 1 + (nodesL ks : Int) → LookEnd w g d n (.mk op m s ks) (.returned (.bool true)) w') := Lib.hid (fun q w' ha hc h1 h2 h3 h4 =>
      ⟨q, by rw [h3], (Away.of hbX (g := g)).trans ha, hc, h1, h2, fun _ => by rw [nodes]; push_cast; omega⟩)
    have HC1 := Lib.hid hC1
    have HA1 := Lib.hid hA1
    have HX1 := Lib.hid hX1
    obtain ⟨-, y0, y1, y2, y3, -⟩ := hX1
    have hX' := hX
    obtain ⟨-, x0, x1, x2, x3, -⟩ := hX'
    have cA := fun w => arity_any op w
    have G := Lib.hid (show n ≤ n + 1 ∧ n + 1 ≤ 129 by omega)
    have HL := Lib.hid (lookE_bad (m := n) (d := d) (op := op) (n := m) (s := s) (ks := ks) (.inr (.inr (.inl (by rw [har]; simp)))))
    have hdz : ¬ (24 : Int) < (d : Int) := by omega
    rw [arityZ_no har] at cA
    clear hX hvv hv hk hkX hC hCX hC1 hA1 hbX hEX hEa har
    go_enter Tryz.func23, Tryz.ntmps23
    go_wp2_with fail
    go_quiet ((go_at_call 31; exact (cA _).mono fun _ _ h => ⟨h.1, _, h.2.symm⟩))
    go_wp2_with fail
    exact bodyPost_ret (v := .bool false) (by simp [results, Tryz.results23, go_sem]) rfl (HEND.out (n + 1) _ (away_dr HA1.out _) (cnt_dr HC1.out _) G.out.1 G.out.2 HL.out)
set_option maxHeartbeats 4000000 in
set_option maxRecDepth 100000 in
theorem look_bad4 (op m : Int) (s : List UInt8) (ks : List Ex) (v : Value) (S : Nat → Prop) (w : World) (d : Nat) (n : Int) (g : Nat) (hv : ExIn w S (.mk op m s ks) v) (_hSg : ¬ S g) (hC : Cnt w g n) (hn0 : 0 ≤ n) (hn1 : n ≤ 128)
    (hEa : ∀ w', Away g w w' → EnvP w') (k : Nat) (hn : ¬ 128 < n + 1) (hd : ¬ 24 < d) (har : arity op = some k) (hkl : ¬ ks.length = k) :
    Calls Tryz.prog 23 #[v, .int .i64 (d : Int), .pointer (some ⟨g, 0, none⟩)] w (LookEnd w g d n (.mk op m s ks)) := by
    have hvv := hv
    obtain ⟨ao, cap, rfl, h2, h3, hr, hk⟩ := hv.get
    unfold Ex.op Ex.num Ex.str Ex.kids at *
    dsimp only at *
    have hgw := hC.lt
    have hX := four_new w (.int .i64 op) (.int .i64 m) (.string ⟨s.toArray⟩) (.slice ao ks.length cap) 24
    have hbX := below_alloc w (.cells #[.int .i64 op, .int .i64 m, .string ⟨s.toArray⟩, .slice ao ks.length cap] 24)
    have hCX := hC.later hbX
    have hsX := alloc_size w (.cells #[.int .i64 op, .int .i64 m, .string ⟨s.toArray⟩, .slice ao ks.length cap] 24)
    have hkX : 0 < ks.length → ∃ g2 o, ao = some ⟨g2, o, none⟩ ∧ S g2 ∧ g2 < (w.alloc (.cells #[.int .i64 op, .int .i64 m, .string ⟨s.toArray⟩, .slice ao ks.length cap] 24)).heap.size ∧ RowIn (w.alloc (.cells #[.int .i64 op, .int .i64 m, .string ⟨s.toArray⟩, .slice ao ks.length cap] 24)) S g2 o ks := fun h0 => by
      obtain ⟨g2, o, a, b, c, r⟩ := hk h0
      exact ⟨g2, o, a, b, Nat.lt_of_lt_of_le c hbX.size, RowIn.stays (.of hbX) ks g2 o b c r⟩
    obtain ⟨wX, hwX⟩ : ∃ wX, w.alloc (.cells #[.int .i64 op, .int .i64 m, .string ⟨s.toArray⟩, .slice ao ks.length cap] 24) = wX := ⟨_, rfl⟩
    rw [hwX] at hX hbX hCX hkX hsX
    have c0 := hCX.cell
    have f0 := hCX.fr
    have hwr : IntKind.i64.wrap (n + 1) = n + 1 := IntWalk.i64_in _ (by omega)
    have hC1 := hCX.set (n + 1)
    have hA1 := (Away.refl g wX).set 0 (.int .i64 (n + 1))
    have hX1 := hX.away hA1 (by omega)
    have hEX : ∀ w', Away g wX w' → EnvP w' := fun w' h => hEa w' ((Away.of hbX (g := g)).trans h)
    have HEX := Lib.hid hEX
    have HEND : Hid (∀ (q : Int) (w' : World), Away g wX w' → Cnt w' g q → n ≤ q → q ≤ 129 → lookE n d (.mk op m s ks) = false → LookEnd w g d n (.mk op m s ks) (.returned (.bool false)) w') := Lib.hid (fun q w' ha hc h1 h2 h3 =>
      ⟨q, by rw [h3], (Away.of hbX (g := g)).trans ha, hc, h1, h2, fun h => by rw [h3] at h; cases h⟩)
    have HYES : Hid (∀ (q : Int) (w' : World), Away g wX w' → Cnt w' g q → n ≤ q → q ≤ 129 → lookE n d (.mk op m s ks) = true → q = n + 1 + (nodesL ks : Int) → LookEnd w g d n (.mk op m s ks) (.returned (.bool true)) w') := Lib.hid (fun q w' ha hc h1 h2 h3 h4 =>
      ⟨q, by rw [h3], (Away.of hbX (g := g)).trans ha, hc, h1, h2, fun _ => by rw [nodes]; push_cast; omega⟩)
    have HC1 := Lib.hid hC1
    have HA1 := Lib.hid hA1
    have HX1 := Lib.hid hX1
    obtain ⟨-, y0, y1, y2, y3, -⟩ := hX1
    have hX' := hX
    obtain ⟨-, x0, x1, x2, x3, -⟩ := hX'
    have cA := fun w => arity_any op w
    have G := Lib.hid (show n ≤ n + 1 ∧ n + 1 ≤ 129 by omega)
    have HL := Lib.hid (lookE_bad (m := n) (d := d) (op := op) (n := m) (s := s) (ks := ks) (.inr (.inr (.inl (by rw [har]; intro h; injection h with h; exact hkl h.symm)))))
    have hdz : ¬ (24 : Int) < (d : Int) := by omega
    rw [arityZ_ok har] at cA
    have hk0 : ¬ (k : Int) < 0 := by omega
    have hln0 : ¬ (ks.length : Int) = (k : Int) := fun h => hkl (Int.ofNat.inj h)
    have hln : ((ks.length : Int) == (k : Int)) = false := beq_eq_false_iff_ne.2 hln0
    have hln3 : ((ks.length : Int) != (k : Int)) = true := bne_iff_ne.2 hln0
    have hln4 : decide (ks.length = k) = false := decide_eq_false hkl
    clear hX hvv hv hk hkX hC hCX hC1 hA1 hbX hEX hEa har
    go_enter Tryz.func23, Tryz.ntmps23
    go_wp2_with fail
    go_quiet ((go_at_call 31; exact (cA _).mono fun _ _ h => ⟨h.1, _, h.2.symm⟩))
    go_wp2_with fail
    exact bodyPost_ret (v := .bool false) (by simp [results, Tryz.results23, go_sem]) rfl (HEND.out (n + 1) _ (away_dr HA1.out _) (cnt_dr HC1.out _) G.out.1 G.out.2 HL.out)
end Go.Proofs.YtaihlfjbgljhlaaGreatDoor
