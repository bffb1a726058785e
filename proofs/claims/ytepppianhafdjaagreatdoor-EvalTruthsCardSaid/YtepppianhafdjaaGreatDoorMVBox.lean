/- The contracts of value.Box, value.truth, value.opened, value.Unbox, value.Kind, value.proper: of every box that is nil, a number, a truth, a text, an api.Value, or of another type. -/
import Derived.Test.YtepppianhafdjaaGreatDoorMVCheck
import Derived.KernelRfl
namespace Go.Proofs.YtepppianhafdjaaGreatDoor
open Go.RowKit

theorem not_nil (w : World) (u : TypeId) (v : Value) : (binOp .eql 20 (.iface u v) .nilIface).run Tryz.prog w = .ok (.bool false) w := by kernel_rfl
theorem is_nil (w : World) : (binOp .eql 20 .nilIface .nilIface).run Tryz.prog w = .ok (.bool true) w := by kernel_rfl
theorem zeroN (w : World) : (do pure (Value.tuple #[← zeroValue 2, .bool false]) : Sem Value).run Tryz.prog w = .ok (.tuple #[.int .i64 0, .bool false]) w := by kernel_rfl
theorem zeroB (w : World) : (do pure (Value.tuple #[← zeroValue 4, .bool false]) : Sem Value).run Tryz.prog w = .ok (.tuple #[.bool false, .bool false]) w := by kernel_rfl
theorem zeroS (w : World) : (do pure (Value.tuple #[← zeroValue 9, .bool false]) : Sem Value).run Tryz.prog w = .ok (.tuple #[.string ⟨#[]⟩, .bool false]) w := by kernel_rfl
theorem zeroV (w : World) : (do pure (Value.tuple #[← zeroValue 23, .bool false]) : Sem Value).run Tryz.prog w = .ok (.tuple #[V3 0 0 ⟨#[]⟩, .bool false]) w := by kernel_rfl
theorem asN_yes (w : World) (v : Value) : (Instr.typeAssert (.iface 2 v) 20 2 true).run Tryz.prog w = .ok (.tuple #[v, .bool true]) w := by kernel_rfl
theorem asB_yes (w : World) (v : Value) : (Instr.typeAssert (.iface 4 v) 20 4 true).run Tryz.prog w = .ok (.tuple #[v, .bool true]) w := by kernel_rfl
theorem asS_yes (w : World) (v : Value) : (Instr.typeAssert (.iface 9 v) 20 9 true).run Tryz.prog w = .ok (.tuple #[v, .bool true]) w := by kernel_rfl
theorem asV_yes (w : World) (v : Value) : (Instr.typeAssert (.iface 23 v) 20 23 true).run Tryz.prog w = .ok (.tuple #[v, .bool true]) w := by kernel_rfl
theorem asN_no (w : World) (u : TypeId) (v : Value) (h : u ≠ 2) : (Instr.typeAssert (.iface u v) 20 2 true).run Tryz.prog w = .ok (.tuple #[.int .i64 0, .bool false]) w := by
  have e : (Instr.typeAssert (.iface u v) 20 2 true).run Tryz.prog w = (if u = 2 then (pure (Value.tuple #[v, .bool true]) : Sem Value) else (do pure (Value.tuple #[← zeroValue 2, .bool false]))).run Tryz.prog w := by kernel_rfl
  rw [e, if_neg h]; exact zeroN w
theorem asB_no (w : World) (u : TypeId) (v : Value) (h : u ≠ 4) : (Instr.typeAssert (.iface u v) 20 4 true).run Tryz.prog w = .ok (.tuple #[.bool false, .bool false]) w := by
  have e : (Instr.typeAssert (.iface u v) 20 4 true).run Tryz.prog w = (if u = 4 then (pure (Value.tuple #[v, .bool true]) : Sem Value) else (do pure (Value.tuple #[← zeroValue 4, .bool false]))).run Tryz.prog w := by kernel_rfl
  rw [e, if_neg h]; exact zeroB w
theorem asS_no (w : World) (u : TypeId) (v : Value) (h : u ≠ 9) : (Instr.typeAssert (.iface u v) 20 9 true).run Tryz.prog w = .ok (.tuple #[.string ⟨#[]⟩, .bool false]) w := by
  have e : (Instr.typeAssert (.iface u v) 20 9 true).run Tryz.prog w = (if u = 9 then (pure (Value.tuple #[v, .bool true]) : Sem Value) else (do pure (Value.tuple #[← zeroValue 9, .bool false]))).run Tryz.prog w := by kernel_rfl
  rw [e, if_neg h]; exact zeroS w
theorem asV_no (w : World) (u : TypeId) (v : Value) (h : u ≠ 23) : (Instr.typeAssert (.iface u v) 20 23 true).run Tryz.prog w = .ok (.tuple #[V3 0 0 ⟨#[]⟩, .bool false]) w := by
  have e : (Instr.typeAssert (.iface u v) 20 23 true).run Tryz.prog w = (if u = 23 then (pure (Value.tuple #[v, .bool true]) : Sem Value) else (do pure (Value.tuple #[← zeroValue 23, .bool false]))).run Tryz.prog w := by kernel_rfl
  rw [e, if_neg h]; exact zeroV w
theorem asN_nil (w : World) : (Instr.typeAssert .nilIface 20 2 true).run Tryz.prog w = .ok (.tuple #[.int .i64 0, .bool false]) w := by kernel_rfl
theorem asB_nil (w : World) : (Instr.typeAssert .nilIface 20 4 true).run Tryz.prog w = .ok (.tuple #[.bool false, .bool false]) w := by kernel_rfl
theorem asS_nil (w : World) : (Instr.typeAssert .nilIface 20 9 true).run Tryz.prog w = .ok (.tuple #[.string ⟨#[]⟩, .bool false]) w := by kernel_rfl
theorem asV_nil (w : World) : (Instr.typeAssert .nilIface 20 23 true).run Tryz.prog w = .ok (.tuple #[V3 0 0 ⟨#[]⟩, .bool false]) w := by kernel_rfl

def b01 (b : Bool) : Int := if b then 1 else 0
/-- What a box has in it, be it allowed or not; false: such a box is never made. -/
inductive Opens : Value → Int → Int → ByteArray → Bool → Prop where
  | nil : Opens .nilIface 0 0 ⟨#[]⟩ true
  | num (n : Int) : Opens (.iface 2 (.int .i64 n)) 1 n ⟨#[]⟩ true
  | truth (b : Bool) : Opens (.iface 4 (.bool b)) 2 (b01 b) ⟨#[]⟩ true
  | text (s : ByteArray) : Opens (.iface 9 (.string s)) 3 0 s true
  | val (K n : Int) (s : ByteArray) : Opens (.iface 23 (V3 K n s)) K n s (K == 4)
  | other (u : TypeId) (v : Value) (h1 : u ≠ 2) (h2 : u ≠ 4) (h3 : u ≠ 9) (h4 : u ≠ 23) : Opens (.iface u v) 0 0 ⟨#[]⟩ false

set_option maxHeartbeats 1000000 in
set_option maxRecDepth 100000 in
theorem truth_any (b : Bool) (w : World) :
    Calls Tryz.prog 72 #[.bool b] w fun e w' => e = .returned (V3 2 (b01 b) ⟨#[]⟩) ∧ Below w.heap.size w w' := by
  cases b
  · go_enter Tryz.func72, Tryz.ntmps72
    go_wp2
    exact bodyPost_ret (v := V3 2 0 ⟨#[]⟩) (by simp [results, Tryz.results72, go_sem]) rfl ⟨rfl, ((Below.refl _ _).alloc (Nat.le_refl _) _).alloc (by simp) _⟩
  · go_enter Tryz.func72, Tryz.ntmps72
    go_wp2
    exact bodyPost_ret (v := V3 2 1 ⟨#[]⟩) (by simp [results, Tryz.results72, go_sem]) rfl ⟨rfl, ((Below.refl _ _).alloc (Nat.le_refl _) _).alloc (by simp) _⟩

set_option maxHeartbeats 2000000 in
set_option maxRecDepth 100000 in
theorem opened_any (x : Value) (K n : Int) (s : ByteArray) (ok : Bool) (h : Opens x K n s ok) (w : World) :
    Calls Tryz.prog 35 #[x] w fun e w' => e = .returned (.tuple #[V3 K n s, .bool ok]) ∧ Below w.heap.size w w' := by
  cases h with
  | nil =>
    go_enter Tryz.func35, Tryz.ntmps35
    go_wp2
    exact bodyPost_ret (v := .tuple #[V3 0 0 ⟨#[]⟩, .bool true]) (by simp [results, Tryz.results35, go_sem]) rfl ⟨rfl, (Below.refl _ _).alloc (Nat.le_refl _) _⟩
  | num n =>
    have h0 := not_nil w 2 (.int .i64 n)
    have h1 := fun w => asN_yes w (.int .i64 n)
    go_enter Tryz.func35, Tryz.ntmps35
    go_wp2
    exact bodyPost_ret (v := .tuple #[V3 1 n ⟨#[]⟩, .bool true]) (by simp [results, Tryz.results35, go_sem]) rfl ⟨rfl, (Below.refl _ _).alloc (Nat.le_refl _) _⟩
  | truth b =>
    have h0 := fun w => not_nil w 4 (.bool b)
    have h1 := fun w => asN_no w 4 (.bool b) (by decide)
    have h2 := fun w => asB_yes w (.bool b)
    go_enter Tryz.func35, Tryz.ntmps35
    go_wp2_with fail
    refine (truth_any b _).mono ?_
    rintro e w1 ⟨rfl, hb1⟩
    have hb0 := below_to (below_alloc w _) hb1
    obtain ⟨hz, c0, c1, c2, f0, f1, f2⟩ := three_later hb1
    clear hb1 h0 h1 h2
    go_wp2
    exact bodyPost_ret (v := .tuple #[V3 2 (b01 b) ⟨#[]⟩, .bool true]) (by simp [results, Tryz.results35, go_sem, c0, c1, c2]) rfl ⟨rfl, ((hb0.setCell (p := ⟨w.heap.size, 0, none⟩) (Nat.le_refl _) _).setCell (p := ⟨w.heap.size, 1, none⟩) (Nat.le_refl _) _).setCell (p := ⟨w.heap.size, 2, none⟩) (Nat.le_refl _) _⟩
  | text s =>
    have h0 := fun w => not_nil w 9 (.string s)
    have h1 := fun w => asN_no w 9 (.string s) (by decide)
    have h2 := fun w => asB_no w 9 (.string s) (by decide)
    have h3 := fun w => asS_yes w (.string s)
    go_enter Tryz.func35, Tryz.ntmps35
    go_wp2
    exact bodyPost_ret (v := .tuple #[V3 3 0 s, .bool true]) (by simp [results, Tryz.results35, go_sem]) rfl ⟨rfl, (Below.refl _ _).alloc (Nat.le_refl _) _⟩
  | val K n s =>
    have h0 := fun w => not_nil w 23 (V3 K n s)
    have h1 := fun w => asN_no w 23 (V3 K n s) (by decide)
    have h2 := fun w => asB_no w 23 (V3 K n s) (by decide)
    have h3 := fun w => asS_no w 23 (V3 K n s) (by decide)
    have h4 := fun w => asV_yes w (V3 K n s)
    go_enter Tryz.func35, Tryz.ntmps35
    go_wp2
    go_region
    all_goals
      go_wp2
      exact bodyPost_ret (v := .tuple #[V3 K n s, .bool (K == 4)]) (by simp [results, Tryz.results35, go_sem]) rfl ⟨rfl, ((below_alloc w _).alloc (by simp) _).drew⟩
  | other u v g1 g2 g3 g4 =>
    have h0 := fun w => not_nil w u v
    have h1 := fun w => asN_no w u v g1
    have h2 := fun w => asB_no w u v g2
    have h3 := fun w => asS_no w u v g3
    have h4 := fun w => asV_no w u v g4
    go_enter Tryz.func35, Tryz.ntmps35
    go_wp2
    exact bodyPost_ret (v := .tuple #[V3 0 0 ⟨#[]⟩, .bool false]) (by simp [results, Tryz.results35, go_sem]) rfl ⟨rfl, (Below.refl _ _).alloc (Nat.le_refl _) _⟩

/-- A box is a value that may be; or it is none. -/
def Boxd (x : Value) (K n : Int) (s : ByteArray) : Prop := Opens x K n s true ∧ checkB K n s.data.toList = true ∧ s.size < 9223372036854775807
def IsNot (x : Value) : Prop := ∃ K n s ok, Opens x K n s ok ∧ s.size < 9223372036854775807 ∧ (ok = false ∨ checkB K n s.data.toList = false)

set_option maxHeartbeats 1000000 in
set_option maxRecDepth 100000 in
theorem unbox_yes (x : Value) (K n : Int) (s : ByteArray) (h : Boxd x K n s) (w : World) (hT : Tabs w) :
    Calls Tryz.prog 25 #[x] w fun e w' => e = .returned (.tuple #[V3 K n s, .bool true]) ∧ Below w.heap.size w w' := by
  obtain ⟨ho, hc, hs⟩ := h
  have cO := opened_any x K n s true ho
  have cC := fun w (hT : Tabs w) => check_any K n s w hs hT
  rw [hc] at cC
  clear ho hc
  go_enter Tryz.func25, Tryz.ntmps25
  go_wp2_with fail
  refine (cO _).mono ?_
  rintro e w1 ⟨rfl, hb1⟩
  have hb0 := below_to (below_alloc w _) hb1
  have h3 := three_later hb1
  clear hb1 cO
  have hb2 := hb0.alloc hb0.size (.cells #[.int .i64 K, .int .i64 n, .string s] 23)
  have hT2 : Tabs (w1.alloc (.cells #[.int .i64 K, .int .i64 n, .string s] 23)) := hT.later hb2
  go_wp2_with fail
  refine (cC _ hT2).mono ?_
  rintro e w2 ⟨rfl, hb3⟩
  have hb4 := below_to hb2 hb3
  obtain ⟨hz2, d0, d1, d2, g0, g1, g2⟩ := three_later hb3
  obtain ⟨hz, e0, e1, e2, z0, z1, z2⟩ := (h3.alloc _).later hb3
  have hne : ¬ w1.heap.size = w.heap.size := by have := h3.lt; omega
  clear hb3 hb0 hb2 hT2 cC h3
  go_wp2
  exact bodyPost_ret (v := .tuple #[V3 K n s, .bool true]) (by simp [results, Tryz.results25, go_sem, e0, e1, e2]) rfl ⟨rfl, ((hb4.setCell (p := ⟨w.heap.size, 0, none⟩) (Nat.le_refl _) _).setCell (p := ⟨w.heap.size, 1, none⟩) (Nat.le_refl _) _).setCell (p := ⟨w.heap.size, 2, none⟩) (Nat.le_refl _) _⟩
set_option maxHeartbeats 1000000 in
set_option maxRecDepth 100000 in
theorem unbox_no (x : Value) (h : IsNot x) (w : World) (hT : Tabs w) :
    Calls Tryz.prog 25 #[x] w fun e w' => e = .returned (.tuple #[V3 0 0 ⟨#[]⟩, .bool false]) ∧ Below w.heap.size w w' := by
  obtain ⟨K, n, s, ok, ho, hs, hc⟩ := h
  have cO := opened_any x K n s ok ho
  cases ok
  · clear ho hc
    go_enter Tryz.func25, Tryz.ntmps25
    go_wp2_with fail
    refine (cO _).mono ?_
    rintro e w1 ⟨rfl, hb1⟩
    have hb0 := below_to (below_alloc w _) hb1
    have h3 := three_later hb1
    obtain ⟨hy, q0, q1, q2, -, -, -⟩ := (h3.set (.int .i64 0) (.int .i64 0) (.string ⟨#[]⟩)).alloc (.cells #[.int .i64 K, .int .i64 n, .string s] 23)
    obtain ⟨hz, e0, e1, e2, z0, z1, z2⟩ := h3
    have hB := ((hb0.setCell (p := ⟨w.heap.size, 0, none⟩) (Nat.le_refl _) (.int .i64 0)).setCell (p := ⟨w.heap.size, 1, none⟩) (Nat.le_refl _) (.int .i64 0)).setCell (p := ⟨w.heap.size, 2, none⟩) (Nat.le_refl _) (.string ⟨#[]⟩)
    have hB2 := hB.alloc hB.size (.cells #[.int .i64 K, .int .i64 n, .string s] 23)
    clear hb1 cO
    go_wp2
    exact bodyPost_ret (v := .tuple #[V3 0 0 ⟨#[]⟩, .bool false]) (by simp [results, Tryz.results25, go_sem, q0, q1, q2]) rfl ⟨rfl, hB2⟩
  · have cC := fun w (hT : Tabs w) => check_any K n s w hs hT
    rw [hc.resolve_left (by simp)] at cC
    clear ho hc
    go_enter Tryz.func25, Tryz.ntmps25
    go_wp2_with fail
    refine (cO _).mono ?_
    rintro e w1 ⟨rfl, hb1⟩
    have hb0 := below_to (below_alloc w _) hb1
    have h3 := three_later hb1
    clear hb1 cO
    have hb2 := hb0.alloc hb0.size (.cells #[.int .i64 K, .int .i64 n, .string s] 23)
    have hT2 : Tabs (w1.alloc (.cells #[.int .i64 K, .int .i64 n, .string s] 23)) := hT.later hb2
    go_wp2_with fail
    refine (cC _ hT2).mono ?_
    rintro e w2 ⟨rfl, hb3⟩
    have hb4 := below_to hb2 hb3
    obtain ⟨hz, e0, e1, e2, z0, z1, z2⟩ := (h3.alloc _).later hb3
    clear hb3 hb0 hb2 hT2 cC h3
    go_wp2
    exact bodyPost_ret (v := .tuple #[V3 0 0 ⟨#[]⟩, .bool false]) (by simp [results, Tryz.results25, go_sem, e0, e1, e2]) rfl ⟨rfl, ((hb4.setCell (p := ⟨w.heap.size, 0, none⟩) (Nat.le_refl _) _).setCell (p := ⟨w.heap.size, 1, none⟩) (Nat.le_refl _) _).setCell (p := ⟨w.heap.size, 2, none⟩) (Nat.le_refl _) _⟩

/-- What a value is boxed as. -/
def boxV (K n : Int) (s : ByteArray) : Value :=
  if checkB K n s.data.toList = true then (if K = 1 then .iface 2 (.int .i64 n) else if K = 2 then .iface 4 (.bool (n == 1)) else if K = 3 then .iface 9 (.string s) else if K = 4 then .iface 23 (V3 K n s) else .nilIface) else .nilIface
set_option maxHeartbeats 2000000 in
set_option maxRecDepth 100000 in
theorem box_any (K n : Int) (s : ByteArray) (w : World) (hs : s.size < 9223372036854775807) (hT : Tabs w) :
    Calls Tryz.prog 75 #[V3 K n s] w fun e w' => e = .returned (boxV K n s) ∧ Below w.heap.size w w' := by
  have hb0 := below_alloc w (.cells #[.int .i64 K, .int .i64 n, .string s] 23)
  have cC := check_any K n s _ hs (hT.later hb0)
  unfold boxV
  obtain ⟨Z, hZ⟩ : ∃ Z, checkB K n s.data.toList = Z := ⟨_, rfl⟩
  rw [hZ] at cC ⊢
  clear hZ hT
  cases Z
  · go_enter Tryz.func75, Tryz.ntmps75
    go_wp2_with fail
    refine cC.mono ?_
    rintro e w1 ⟨rfl, hb1⟩
    have hb2 := below_to hb0 hb1
    clear hb1 hb0 cC
    go_wp2
    go_ret
    exact ⟨by simp, hb2⟩
  · rw [if_pos rfl]
    obtain ⟨X, hX⟩ : ∃ X : Value, (if K = 1 then .iface 2 (.int .i64 n) else if K = 2 then .iface 4 (.bool (n == 1)) else if K = 3 then .iface 9 (.string s) else if K = 4 then .iface 23 (V3 K n s) else .nilIface) = X := ⟨_, rfl⟩
    rw [hX]
    have HX := Lib.hid hX
    clear hX
    go_enter Tryz.func75, Tryz.ntmps75
    go_wp2_with fail
    refine cC.mono ?_
    rintro e w1 ⟨rfl, hb1⟩
    have hb2 := below_to hb0 hb1
    obtain ⟨hz, e0, e1, e2, z0, z1, z2⟩ := three_later hb1
    clear hb1 hb0 cC
    go_wp2
    all_goals simp only [beq_iff_eq, beq_eq_false_iff_ne, ne_eq] at *
    all_goals
      go_ret
      refine ⟨?_, hb2⟩
      rw [← HX.out]
      simp [*]
end Go.Proofs.YtepppianhafdjaaGreatDoor
