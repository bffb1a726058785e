/- Several texts in one: Cnt, ChkM, V3, VRefCheck, RPl. -/
import Derived.Test.YtbbblmedoagncaaGreatDoorGO
import Derived.Test.YtbbblmedoagncaaGreatDoorGJ
import Derived.Test.YtbbblmedoagncaaGreatDoorGG
import Derived.Test.YtbbblmedoagncaaGreatDoorGB
import Derived.Test.YtbbblmedoagncaaGreatDoorGE
namespace Go.Proofs.YtbbblmedoagncaaGreatDoor
/- A number of the call's own, in a block; a kid is less deep than all. -/
section
open Go.RowKit

/-- A number of the call's own, in a block. -/
def Cnt (w : World) (g : Nat) (n : Int) : Prop := w.heap[g]? = some (.cells #[.int .i64 n] 3 (0, 0))
theorem Cnt.lt {w : World} {g : Nat} {n : Int} (h : Cnt w g n) : g < w.heap.size := (Array.getElem?_eq_some_iff.1 h).1
theorem Cnt.cell {w : World} {g : Nat} {n : Int} (h : Cnt w g n) : w.cell? ⟨g, 0, none⟩ = some (.int .i64 n) := by rw [cell_of_row w g 0 _ _ _ h]; rfl
theorem Cnt.fr {w : World} {g : Nat} {n : Int} (h : Cnt w g n) : w.frozen? ⟨g, 0, none⟩ = false := by simp [World.frozen?, show w.heap[g]? = _ from h]
theorem Cnt.set {w : World} {g : Nat} {n : Int} (h : Cnt w g n) (m : Int) : Cnt (w.setCell ⟨g, 0, none⟩ (.int .i64 m)) g m := by unfold Cnt; rw [heap_setCell_same w g 0 _ _ _ h]; rfl
theorem Cnt.later {w w' : World} {g : Nat} {n : Int} (h : Cnt w g n) (hb : Below w.heap.size w w') : Cnt w' g n := by unfold Cnt; rw [hb.block g h.lt]; exact h
theorem deep_kid {k : Ex} : ∀ {ks : List Ex}, k ∈ ks → deepE k ≤ deepL ks
  | x :: xs, h => by
    rw [deepL]
    rcases List.mem_cons.1 h with rfl | h
    · omega
    · have := deep_kid h; omega
end
/- Plain mathematics: how the document's own Check looks at an expression, part by part, with a count. No program stands in this text. -/
section

/-- A part so deep, where so many were met ahead of it. -/
def lookE (m : Int) (d : Nat) (e : Ex) : Bool := decide (m + (nodes e : Int) ≤ 128) && (decide (d + deepE e ≤ 25) && allB e)
/-- The kids that are left, hk: of 'has'. -/
def lookL (hk : Bool) (m : Int) (d : Nat) (es : List Ex) : Bool := decide (m + (nodesL es : Int) ≤ 128) && (decide (d + deepL es ≤ 25) && (allBL es && (!hk || es.all fun k => k.op == 4)))
theorem lookL_nil (hk : Bool) (m : Int) (d : Nat) (hm : m ≤ 128) (hd : d ≤ 25) : lookL hk m d [] = true := by
  simp [lookL, nodesL, deepL, allBL, hm, hd]
theorem lookL_has {m : Int} {d : Nat} {e : Ex} {es : List Ex} (h : e.op ≠ 4) : lookL true m d (e :: es) = false := by
  unfold lookL
  simp [beq_eq_false_iff_ne.2 h]
theorem lookL_no {hk : Bool} {m : Int} {d : Nat} {e : Ex} {es : List Ex} (h : lookE m d e = false) : lookL hk m d (e :: es) = false := by
  cases hl : lookL hk m d (e :: es) with
  | false => rfl
  | true =>
    exfalso
    unfold lookL at hl
    unfold lookE at h
    rw [nodesL, deepL, allBL] at hl
    simp only [Bool.and_eq_true, decide_eq_true_eq] at hl
    obtain ⟨h1, h2, ⟨h3, h4⟩, h5⟩ := hl
    rw [decide_eq_true (show m + (nodes e : Int) ≤ 128 by push_cast at h1; omega), decide_eq_true (show d + deepE e ≤ 25 by omega), h3] at h
    simp at h
theorem lookL_yes {hk : Bool} {m : Int} {d : Nat} {e : Ex} {es : List Ex} (h : lookE m d e = true) (ho : hk = false ∨ e.op = 4) : lookL hk m d (e :: es) = lookL hk (m + (nodes e : Int)) d es := by
  unfold lookE at h
  simp only [Bool.and_eq_true, decide_eq_true_eq] at h
  obtain ⟨h1, h2, h3⟩ := h
  unfold lookL
  rw [nodesL, deepL, allBL, h3, Bool.true_and, List.all_cons]
  have e1 : decide (m + ((nodes e + nodesL es : Nat) : Int) ≤ 128) = decide (m + (nodes e : Int) + (nodesL es : Int) ≤ 128) := by
    apply decide_eq_decide.2
    push_cast; omega
  have e2 : decide (d + max (deepE e) (deepL es) ≤ 25) = decide (d + deepL es ≤ 25) := by
    apply decide_eq_decide.2
    omega
  rw [e1, e2]
  rcases ho with rfl | ho
  · simp
  · rw [ho]; simp
theorem lookE_mk (m : Int) (d : Nat) (op n : Int) (s : List UInt8) (ks : List Ex) (_h1 : m + 1 ≤ 128) (_h2 : d ≤ 24) (ha : arity op = some ks.length) (hp : plainB op n s = true) : lookE m d (.mk op n s ks) = lookL (op == 22) (m + 1) (d + 1) ks := by
  unfold lookE lookL
  rw [nodes, deepE, allB]
  unfold partB hasB Ex.op Ex.kids Ex.num Ex.str
  dsimp only
  rw [decide_eq_true ha, hp]
  have e1 : decide (m + ((nodesL ks + 1 : Nat) : Int) ≤ 128) = decide (m + 1 + (nodesL ks : Int) ≤ 128) := by
    apply decide_eq_decide.2
    push_cast; omega
  have e2 : decide (d + (deepL ks + 1) ≤ 25) = decide (d + 1 + deepL ks ≤ 25) := by
    apply decide_eq_decide.2
    omega
  rw [e1, e2]
  cases h : (op == 22) with
  | false =>
    have : (op != 22) = true := by simpa using h
    rw [this]; simp
  | true =>
    have : (op != 22) = false := by simpa using h
    rw [this]
    simp [Bool.and_comm]
theorem lookE_bad {m : Int} {d : Nat} {op n : Int} {s : List UInt8} {ks : List Ex} (h : 128 < m + 1 ∨ 24 < d ∨ arity op ≠ some ks.length ∨ plainB op n s = false) : lookE m d (.mk op n s ks) = false := by
  cases hl : lookE m d (.mk op n s ks) with
  | false => rfl
  | true =>
    exfalso
    unfold lookE at hl
    rw [nodes, deepE, allB] at hl
    unfold partB Ex.op Ex.kids Ex.num Ex.str at hl
    dsimp only at hl
    simp only [Bool.and_eq_true, decide_eq_true_eq] at hl
    obtain ⟨h1, h2, ⟨⟨⟨h3, h4⟩, h5⟩, h6⟩⟩ := hl
    rcases h with h | h | h | h
    · push_cast at h1; omega
    · omega
    · exact h h3
    · rw [h4] at h; cases h
theorem look_chk (e : Ex) : lookE 0 1 e = chkB e := by
  unfold lookE chkB
  have e1 : decide ((0 : Int) + (nodes e : Int) ≤ 128) = decide (nodes e ≤ 128) := by
    apply decide_eq_decide.2
    omega
  have e2 : decide (1 + deepE e ≤ 25) = decide (deepE e ≤ 24) := by
    apply decide_eq_decide.2
    omega
  rw [e1, e2, Bool.and_assoc]
end
/- A value as it stands in memory, or comes in. -/
section
abbrev V3 (K n : Int) (s : ByteArray) : Value := .agg #[.int .i64 K, .int .i64 n, .string s]
end
/- The contract of the document's own Check: whatever the value, whether it may be. -/
section
open Go.RowKit

theorem pcs_four (l : List UInt8) : l.length ≤ 4 * (pcs l).length := by
  induction l using pcs_induct with
  | h0 => simp
  | h1 l hne ih =>
    have hw : (Lib.decodeL l).2 ≤ 4 := by
      rw [Lib.decodeL_N]
      rcases Lib.decodeN_shape l.length (l.getD 0 0).toNat (l.getD 1 0).toNat (l.getD 2 0).toNat (l.getD 3 0).toNat with ⟨c, e⟩ | ⟨a1, a2, a3, av, e⟩ | ⟨a1, a2, a3, a4, av, asr, e⟩ | ⟨a1, a2, a3, a4, a5, av, aw, e⟩ | e
      all_goals rw [e]; dsimp only; omega
    rw [pcs_step l hne, List.length_cons]
    rw [List.length_drop] at ih
    omega
/-- A text of so many runes has no more bytes than four times as many. -/
theorem count_len (s : ByteArray) (h : countL s.data.toList ≤ 100) : s.size ≤ 400 := by
  have := pcs_four s.data.toList
  unfold countL at h
  rw [size_list] at this; omega

set_option maxHeartbeats 1000000 in
set_option maxRecDepth 100000 in
theorem refCheck_text (s : ByteArray) (w : World) :
    Calls Tryz.prog 150 #[V3 3 0 s] w fun e w' => e = .returned (.bool (checkB 3 0 s.data.toList)) ∧ Below w.heap.size w w' := by
  have hC : checkB 3 0 s.data.toList = (validL s.data.toList && decide (countL s.data.toList ≤ 100)) := by simp [checkB]
  have hb0 : Below w.heap.size w (w.alloc (.cells #[.int .i64 3, .int .i64 0, .string s] 39)) := (Below.refl _ _).alloc (Nat.le_refl _) _
  by_cases hlen : s.size ≤ 400
  · have hlz : decide ((s.size : Int) ≤ 400) = true := by simp; omega
    have cN : ∀ w, Calls Tryz.prog 212 #[.string s] w fun e w' => e = .returned (.int .i64 ((countL s.data.toList : Nat) : Int)) ∧ Below w.heap.size w w' := fun w => refCount_any s w (by omega)
    have cV := fun w => refValid_any s w (by omega)
    rw [hC]; clear hC
    obtain ⟨Z, hZ⟩ : ∃ Z, validL s.data.toList = Z := ⟨_, rfl⟩
    obtain ⟨N, hN⟩ : ∃ N, countL s.data.toList = N := ⟨_, rfl⟩
    rw [hZ] at cV ⊢
    rw [hN] at cN ⊢
    clear hZ hN
    cases Z
    · go_enter Tryz.func150, Tryz.ntmps150
      go_wp2_with fail
      refine (cV _).mono ?_
      rintro e w1 ⟨rfl, hb1⟩
      go_wp2
      go_ret
      exact ⟨rfl, hb0.trans (hb1.mono (by simp))⟩
    · go_enter Tryz.func150, Tryz.ntmps150
      go_wp2_with fail
      refine (cV _).mono ?_
      rintro e w1 ⟨rfl, hb1⟩
      have hb2 := hb0.trans (hb1.mono (by simp))
      have hc : w1.cell? ⟨w.heap.size, 2, none⟩ = some (.string s) := by
        rw [hb1.cell (p := ⟨w.heap.size, 2, none⟩) (by simp), cells_of_alloc]; rfl
      clear hb1 hb0
      go_wp2_with fail
      refine (cN _).mono ?_
      rintro e w2 ⟨rfl, hb3⟩
      go_wp2
      go_ret
      refine ⟨ret_bool ?_, hb2.trans (hb3.mono hb2.size)⟩
      rw [Bool.true_and]; exact decide_eq_decide.2 (by omega)
  · have hF : checkB 3 0 s.data.toList = false := by
      rw [hC, Bool.and_eq_false_iff]; right
      exact decide_eq_false (fun h => hlen (count_len s h))
    rw [hF]
    clear hC hF
    have hlz : ¬ ((s.size : Int) ≤ 400) := by omega
    go_enter Tryz.func150, Tryz.ntmps150
    go_wp2
    go_ret
    exact ⟨rfl, hb0⟩

set_option maxHeartbeats 4000000 in
set_option maxRecDepth 100000 in
theorem refCheck_any (K n : Int) (s : ByteArray) (w : World) :
    Calls Tryz.prog 150 #[V3 K n s] w fun e w' => e = .returned (.bool (checkB K n s.data.toList)) ∧ Below w.heap.size w w' := by
  by_cases h3 : K = 3 ∧ n = 0
  · obtain ⟨rfl, rfl⟩ := h3
    exact refCheck_text s w
  obtain ⟨V, hV⟩ : ∃ V, checkB K n s.data.toList = V := ⟨_, rfl⟩
  rw [hV]
  have HV := Lib.hid hV
  have H3 := Lib.hid h3
  clear hV h3
  by_cases hn : n = 0
  · subst hn
    have hk3 : (K == 3) = false := beq_eq_false_iff_ne.2 (fun h => H3.out ⟨h, rfl⟩)
    go_enter Tryz.func150, Tryz.ntmps150
    go_wp2_with fail
    all_goals simp only [beq_iff_eq, beq_eq_false_iff_ne, ne_eq] at *
    all_goals
      (go_ret
       refine ⟨ret_bool ?_, (Below.refl _ _).alloc (Nat.le_refl _) _⟩
       rw [← HV.out]
       first
         | (simp_all [checkB, emp]; done)
         | (simp_all [checkB]; omega))
  · go_enter Tryz.func150, Tryz.ntmps150
    go_wp2_with fail
    all_goals simp only [beq_iff_eq, beq_eq_false_iff_ne, ne_eq] at *
    all_goals
      (go_ret
       refine ⟨ret_bool ?_, (Below.refl _ _).alloc (Nat.le_refl _) _⟩
       rw [← HV.out]
       first
         | (simp_all [checkB, emp]; done)
         | (simp_all [checkB]; done)
         | (simp_all [checkB]; omega))
end
/- palaverref07.Arity, plain, look, Check: the document's own Check. -/
section
open Go.RowKit

def arityZ (op : Int) : Int := match arity op with
  | none => -1
  | some k => (k : Int)
set_option maxHeartbeats 2000000 in
set_option maxRecDepth 100000 in
theorem arity_any (op : Int) (w : World) : Calls Tryz.prog 72 #[.int .i64 op] w fun e w' => e = .returned (.int .i64 (arityZ op)) ∧ w = w' := by
  have : op < 1 ∨ 23 < op ∨ op = 1 ∨ op = 2 ∨ op = 3 ∨ op = 4 ∨ op = 5 ∨ op = 6 ∨ op = 7 ∨ op = 8 ∨ op = 9 ∨ op = 10 ∨ op = 11 ∨ op = 12 ∨ op = 13 ∨ op = 14 ∨ op = 15 ∨ op = 16 ∨ op = 17 ∨ op = 18 ∨ op = 19 ∨ op = 20 ∨ op = 21 ∨ op = 22 ∨ op = 23 := by omega
  rcases this with h | h | rfl | rfl | rfl | rfl | rfl | rfl | rfl | rfl | rfl | rfl | rfl | rfl | rfl | rfl | rfl | rfl | rfl | rfl | rfl | rfl | rfl | rfl | rfl
  · have ha : Hid (arityZ op = -1) := Lib.hid (by unfold arityZ arity; rw [if_neg (by omega), if_neg (by omega), if_neg (by omega), if_neg (by omega)])
    have e5 : (op == 5) = false := beq_eq_false_iff_ne.2 (by omega)
    have e6 : (op == 6) = false := beq_eq_false_iff_ne.2 (by omega)
    have e18 : (op == 18) = false := beq_eq_false_iff_ne.2 (by omega)
    have e19 : (op == 19) = false := beq_eq_false_iff_ne.2 (by omega)
    have e20 : (op == 20) = false := beq_eq_false_iff_ne.2 (by omega)
    have e21 : (op == 21) = false := beq_eq_false_iff_ne.2 (by omega)
    have e22 : (op == 22) = false := beq_eq_false_iff_ne.2 (by omega)
    have e23 : (op == 23) = false := beq_eq_false_iff_ne.2 (by omega)
    have g1 : ¬ (1 : Int) ≤ op := by omega
    have g2 : ¬ (7 : Int) ≤ op := by omega
    clear h
    go_enter Tryz.func72, Tryz.ntmps72
    go_wp2_with fail
    go_ret
    exact ⟨ret_int ha.out.symm, rfl⟩
  · have ha : Hid (arityZ op = -1) := Lib.hid (by unfold arityZ arity; rw [if_neg (by omega), if_neg (by omega), if_neg (by omega), if_neg (by omega)])
    have e5 : (op == 5) = false := beq_eq_false_iff_ne.2 (by omega)
    have e6 : (op == 6) = false := beq_eq_false_iff_ne.2 (by omega)
    have e18 : (op == 18) = false := beq_eq_false_iff_ne.2 (by omega)
    have e19 : (op == 19) = false := beq_eq_false_iff_ne.2 (by omega)
    have e20 : (op == 20) = false := beq_eq_false_iff_ne.2 (by omega)
    have e21 : (op == 21) = false := beq_eq_false_iff_ne.2 (by omega)
    have e22 : (op == 22) = false := beq_eq_false_iff_ne.2 (by omega)
    have e23 : (op == 23) = false := beq_eq_false_iff_ne.2 (by omega)
    have g1 : (1 : Int) ≤ op := by omega
    have g2 : (7 : Int) ≤ op := by omega
    have g3 : ¬ op ≤ 4 := by omega
    have g4 : ¬ op ≤ 17 := by omega
    clear h
    go_enter Tryz.func72, Tryz.ntmps72
    go_wp2_with fail
    go_ret
    exact ⟨ret_int ha.out.symm, rfl⟩
  all_goals
    go_enter Tryz.func72, Tryz.ntmps72
    go_wp2_with fail
    go_ret
    exact ⟨ret_int (by decide), rfl⟩
set_option maxHeartbeats 2000000 in
set_option maxRecDepth 100000 in
theorem rplain_1 (n : Int) (S : ByteArray) (kv : Value) (w : World) :
    Calls Tryz.prog 73 #[EV 1 n S kv] w fun e w' => e = .returned (.bool (decide (0 ≤ n) && S.toList.isEmpty)) ∧ Below w.heap.size w w' := by
  have hb := below_alloc w (.cells #[.int .i64 1, .int .i64 n, .string S, kv] 24)
  obtain ⟨-, x0, x1, x2, x3, -⟩ := four_new w (.int .i64 1) (.int .i64 n) (.string S) kv 24
  have HB := Lib.hid hb
  clear hb
  by_cases h : 0 ≤ n
  · cases hE : S.toList.isEmpty
    all_goals
      go_enter Tryz.func73, Tryz.ntmps73
      go_wp2_with fail
      go_ret
      exact ⟨ret_bool (by simp [h]), HB.out⟩
  · cases hE : S.toList.isEmpty
    all_goals
      go_enter Tryz.func73, Tryz.ntmps73
      go_wp2_with fail
      go_ret
      exact ⟨ret_bool (by simp [h]), HB.out⟩
set_option maxHeartbeats 2000000 in
set_option maxRecDepth 100000 in
theorem rplain_3 (n : Int) (S : ByteArray) (kv : Value) (w : World) :
    Calls Tryz.prog 73 #[EV 3 n S kv] w fun e w' => e = .returned (.bool (decide (n = 0 ∨ n = 1) && S.toList.isEmpty)) ∧ Below w.heap.size w w' := by
  have hb := below_alloc w (.cells #[.int .i64 3, .int .i64 n, .string S, kv] 24)
  obtain ⟨-, x0, x1, x2, x3, -⟩ := four_new w (.int .i64 3) (.int .i64 n) (.string S) kv 24
  have HB := Lib.hid hb
  clear hb
  have e3 : n = 0 ∨ n = 1 ∨ (n ≠ 0 ∧ n ≠ 1) := by omega
  rcases e3 with rfl | rfl | ⟨h0, h1⟩
  · cases hE : S.toList.isEmpty
    all_goals
      go_enter Tryz.func73, Tryz.ntmps73
      go_wp2_with fail
      go_ret
      exact ⟨ret_bool (by simp []), HB.out⟩
  · cases hE : S.toList.isEmpty
    all_goals
      go_enter Tryz.func73, Tryz.ntmps73
      go_wp2_with fail
      go_ret
      exact ⟨ret_bool (by simp []), HB.out⟩
  · have q0 : (n == 0) = false := beq_eq_false_iff_ne.2 h0
    have q1 : (n == 1) = false := beq_eq_false_iff_ne.2 h1
    cases hE : S.toList.isEmpty
    all_goals
      go_enter Tryz.func73, Tryz.ntmps73
      go_wp2_with fail
      go_ret
      exact ⟨ret_bool (by simp [h0, h1]), HB.out⟩
set_option maxHeartbeats 2000000 in
set_option maxRecDepth 100000 in
theorem rplain_o (op : Int) (n : Int) (S : ByteArray) (kv : Value) (w : World) (h1 : op ≠ 1) (h2 : op ≠ 2) (h3 : op ≠ 3) (h4 : op ≠ 4) :
    Calls Tryz.prog 73 #[EV op n S kv] w fun e w' => e = .returned (.bool (decide (n = 0) && S.toList.isEmpty)) ∧ Below w.heap.size w w' := by
  have hb := below_alloc w (.cells #[.int .i64 op, .int .i64 n, .string S, kv] 24)
  obtain ⟨-, x0, x1, x2, x3, -⟩ := four_new w (.int .i64 op) (.int .i64 n) (.string S) kv 24
  have HB := Lib.hid hb
  clear hb
  have e1 : (op == 1) = false := beq_eq_false_iff_ne.2 h1
  have e2 : (op == 2) = false := beq_eq_false_iff_ne.2 h2
  have e3 : (op == 3) = false := beq_eq_false_iff_ne.2 h3
  have e4 : (op == 4) = false := beq_eq_false_iff_ne.2 h4
  clear h1 h2 h3 h4
  by_cases h : n = 0
  · subst h
    cases hE : S.toList.isEmpty
    all_goals
      go_enter Tryz.func73, Tryz.ntmps73
      go_wp2_with fail
      go_ret
      exact ⟨ret_bool (by simp []), HB.out⟩
  · have hn : (n == 0) = false := beq_eq_false_iff_ne.2 h
    cases hE : S.toList.isEmpty
    all_goals
      go_enter Tryz.func73, Tryz.ntmps73
      go_wp2_with fail
      go_ret
      exact ⟨ret_bool (by simp [h]), HB.out⟩
set_option maxHeartbeats 2000000 in
set_option maxRecDepth 100000 in
theorem rplain_2 (n : Int) (S : ByteArray) (kv : Value) (w : World) (_hE : EnvP w) (_hs : S.size ≤ 9223372036854775807) :
    Calls Tryz.prog 73 #[EV 2 n S kv] w fun e w' => e = .returned (.bool (decide (n = 0) && checkB 3 0 S.data.toList)) ∧ Below w.heap.size w w' := by
  have hb := below_alloc w (.cells #[.int .i64 2, .int .i64 n, .string S, kv] 24)
  obtain ⟨-, x0, x1, x2, x3, -⟩ := four_new w (.int .i64 2) (.int .i64 n) (.string S) kv 24
  have c := refCheck_any 3 0 S (w.alloc (.cells #[.int .i64 2, .int .i64 n, .string S, kv] 24))
  obtain ⟨R, hR⟩ : ∃ R, checkB 3 0 S.data.toList = R := ⟨_, rfl⟩
  rw [hR] at c ⊢
  have HB := Lib.hid hb
  clear hb hR
  by_cases h : n = 0
  · subst h
    cases R
    all_goals
      go_enter Tryz.func73, Tryz.ntmps73
      go_wp2_with fail
      refine c.mono ?_
      rintro e w1 ⟨rfl, b1⟩
      go_wp2_with fail
      go_ret
      exact ⟨rfl, below_to HB.out b1⟩
  · have hn : (n == 0) = false := beq_eq_false_iff_ne.2 h
    clear c
    go_enter Tryz.func73, Tryz.ntmps73
    go_wp2_with fail
    go_ret
    exact ⟨ret_bool (by simp [h]), HB.out⟩
set_option maxHeartbeats 2000000 in
set_option maxRecDepth 100000 in
theorem rplain_4 (n : Int) (S : ByteArray) (kv : Value) (w : World) (hE : EnvP w) (hs : S.size ≤ 9223372036854775807) :
    Calls Tryz.prog 73 #[EV 4 n S kv] w fun e w' => e = .returned (.bool (decide (n = 0) && nameB S.data.toList)) ∧ Below w.heap.size w w' := by
  have hb := below_alloc w (.cells #[.int .i64 4, .int .i64 n, .string S, kv] 24)
  obtain ⟨-, x0, x1, x2, x3, -⟩ := four_new w (.int .i64 4) (.int .i64 n) (.string S) kv 24
  have c := rname_any S (w.alloc (.cells #[.int .i64 4, .int .i64 n, .string S, kv] 24)) hs (hE.later hb).env
  obtain ⟨R, hR⟩ : ∃ R, nameB S.data.toList = R := ⟨_, rfl⟩
  rw [hR] at c ⊢
  have HB := Lib.hid hb
  clear hb hR
  by_cases h : n = 0
  · subst h
    cases R
    all_goals
      go_enter Tryz.func73, Tryz.ntmps73
      go_wp2_with fail
      refine c.mono ?_
      rintro e w1 ⟨rfl, b1⟩
      go_wp2_with fail
      go_ret
      exact ⟨rfl, below_to HB.out b1⟩
  · have hn : (n == 0) = false := beq_eq_false_iff_ne.2 h
    clear c
    go_enter Tryz.func73, Tryz.ntmps73
    go_wp2_with fail
    go_ret
    exact ⟨ret_bool (by simp [h]), HB.out⟩
theorem rplain_any (op n : Int) (s : List UInt8) (kv : Value) (w : World) (hE : EnvP w) (hs : s.length < 9223372036854775807) :
    Calls Tryz.prog 73 #[EV op n ⟨s.toArray⟩ kv] w fun e w' => e = .returned (.bool (plainB op n s)) ∧ Below w.heap.size w w' := by
  have hi := isEmpty_str s
  have hd : (⟨s.toArray⟩ : ByteArray).data.toList = s := rfl
  have hz : (⟨s.toArray⟩ : ByteArray).size ≤ 9223372036854775807 := by rw [show (⟨s.toArray⟩ : ByteArray).size = s.length by simp [ByteArray.size]]; omega
  unfold plainB
  by_cases h1 : op = 1
  · subst h1
    have := rplain_1 n ⟨s.toArray⟩ kv w
    rw [hi] at this
    rw [if_pos rfl]; exact this
  by_cases h2 : op = 2
  · subst h2
    have := rplain_2 n ⟨s.toArray⟩ kv w hE hz
    rw [hd, show checkB 3 0 s = textB s by simp [checkB, textB]] at this
    rw [if_neg h1, if_pos rfl]; exact this
  by_cases h3 : op = 3
  · subst h3
    have := rplain_3 n ⟨s.toArray⟩ kv w
    rw [hi] at this
    rw [if_neg h1, if_neg h2, if_pos rfl]; exact this
  by_cases h4 : op = 4
  · subst h4
    have := rplain_4 n ⟨s.toArray⟩ kv w hE hz
    rw [hd] at this
    rw [if_neg h1, if_neg h2, if_neg h3, if_pos rfl]; exact this
  have := rplain_o op n ⟨s.toArray⟩ kv w h1 h2 h3 h4
  rw [hi] at this
  rw [if_neg h1, if_neg h2, if_neg h3, if_neg h4]; exact this
end
end Go.Proofs.YtbbblmedoagncaaGreatDoor
