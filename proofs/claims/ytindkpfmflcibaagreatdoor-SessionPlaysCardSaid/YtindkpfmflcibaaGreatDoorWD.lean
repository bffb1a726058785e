/- Several texts in one: VCheck, VRefCheck, VGet, VRefGet. -/
import Derived.Test.YtindkpfmflcibaaGreatDoorGB
import Derived.Test.YtindkpfmflcibaaGreatDoorMValid
import Derived.Test.YtindkpfmflcibaaGreatDoorGE
import Derived.Test.YtindkpfmflcibaaGreatDoorWC
namespace Go.Proofs.YtindkpfmflcibaaGreatDoor
/- The contract of value.Check: whatever the value, whether it may be. -/
section
open Go.RowKit

set_option maxHeartbeats 1000000 in
theorem check_text (s : ByteArray) (w : World) (hs : s.size < 9223372036854775807) (hT : Tabs w) :
    Calls Tryz.prog 55 #[V3 3 0 s] w fun e w' => e = .returned (.bool (checkB 3 0 s.data.toList)) ∧ Below w.heap.size w w' := by
  have hC : checkB 3 0 s.data.toList = (validL s.data.toList && decide (countL s.data.toList ≤ 100)) := by simp [checkB]
  rw [hC]; clear hC
  have cN : ∀ w, Calls Tryz.prog 73 #[.string s] w fun e w' => e = .returned (.int .i64 ((countL s.data.toList : Nat) : Int)) ∧ Below w.heap.size w w' := fun w => by
    have := count_any s w hs; rwa [runeCount_eq] at this
  obtain ⟨Z, hZ⟩ : ∃ Z, validL s.data.toList = Z := ⟨_, rfl⟩
  obtain ⟨N, hN⟩ : ∃ N, countL s.data.toList = N := ⟨_, rfl⟩
  have cV := fun w (hT : Tabs w) => valid_any s w (by omega) hT
  rw [hZ] at cV ⊢
  rw [hN] at cN ⊢
  have hb0 : Below w.heap.size w (w.alloc (.cells #[.int .i64 3, .int .i64 0, .string s] 32)) := (Below.refl _ _).alloc (Nat.le_refl _) _
  have hT1 : Tabs (w.alloc (.cells #[.int .i64 3, .int .i64 0, .string s] 32)) := hT.later hb0
  clear hZ hN
  cases Z
  · go_enter Tryz.func55, Tryz.ntmps55
    go_wp2_with fail
    refine (cV _ hT1).mono ?_
    rintro e w1 ⟨rfl, hb1⟩
    go_wp2
    go_ret
    exact ⟨rfl, hb0.trans (hb1.mono (by simp))⟩
  · go_enter Tryz.func55, Tryz.ntmps55
    go_wp2_with fail
    refine (cV _ hT1).mono ?_
    rintro e w1 ⟨rfl, hb1⟩
    have hb2 := hb0.trans (hb1.mono (by simp))
    have hc : w1.cell? ⟨w.heap.size, 2, none⟩ = some (.string s) := by
      rw [hb1.cell (p := ⟨w.heap.size, 2, none⟩) (by simp), cells_of_alloc]; rfl
    clear hb1 hb0
    go_wp2_with fail
    refine (cN _).mono ?_
    rintro e w2 ⟨rfl, hb3⟩
    go_wp2
    go_ret
    refine ⟨ret_bool ?_, hb2.trans (hb3.mono hb2.size)⟩
    rw [Bool.true_and]; exact decide_eq_decide.2 (by omega)

set_option maxHeartbeats 4000000 in
set_option maxRecDepth 100000 in
theorem check_any (K n : Int) (s : ByteArray) (w : World) (hs : s.size < 9223372036854775807) (hT : Tabs w) :
    Calls Tryz.prog 55 #[V3 K n s] w fun e w' => e = .returned (.bool (checkB K n s.data.toList)) ∧ Below w.heap.size w w' := by
  by_cases h3 : K = 3 ∧ n = 0
  · obtain ⟨rfl, rfl⟩ := h3
    exact check_text s w hs hT
  obtain ⟨V, hV⟩ : ∃ V, checkB K n s.data.toList = V := ⟨_, rfl⟩
  rw [hV]
  have HV := Lib.hid hV
  have H3 := Lib.hid h3
  clear hV h3
  go_enter Tryz.func55, Tryz.ntmps55
  go_wp2_with fail
  all_goals simp only [beq_iff_eq, beq_eq_false_iff_ne, ne_eq] at *
  all_goals first
    | (exfalso; exact H3.out ⟨by assumption, by assumption⟩)
    | (go_ret
       refine ⟨ret_bool ?_, (Below.refl _ _).alloc (Nat.le_refl _) _⟩
       rw [← HV.out]
       first
         | (simp_all [checkB, emp]; done)
         | (simp_all [checkB]; omega))
end
/- The contract of the document's own Check: whatever the value, whether it may be. -/
section
open Go.RowKit

theorem pcs_four (l : List UInt8) : l.length ≤ 4 * (pcs l).length := by
  induction l using pcs_induct with
  | h0 => simp
  | h1 l hne ih =>
    have hw : (Lib.decodeL l).2 ≤ 4 := by
      rw [Lib.decodeL_N]
      rcases Lib.decodeN_shape l.length (l.getD 0 0).toNat (l.getD 1 0).toNat (l.getD 2 0).toNat (l.getD 3 0).toNat with ⟨c, e⟩ | ⟨a1, a2, a3, av, e⟩ | ⟨a1, a2, a3, a4, av, asr, e⟩ | ⟨a1, a2, a3, a4, a5, av, aw, e⟩ | e
      all_goals rw [e]; dsimp only; omega
    rw [pcs_step l hne, List.length_cons]
    rw [List.length_drop] at ih
    omega
/-- A text of so many runes has no more bytes than four times as many. -/
theorem count_len (s : ByteArray) (h : countL s.data.toList ≤ 100) : s.size ≤ 400 := by
  have := pcs_four s.data.toList
  unfold countL at h
  rw [size_list] at this; omega

set_option maxHeartbeats 1000000 in
set_option maxRecDepth 100000 in
theorem refCheck_text (s : ByteArray) (w : World) :
    Calls Tryz.prog 58 #[V3 3 0 s] w fun e w' => e = .returned (.bool (checkB 3 0 s.data.toList)) ∧ Below w.heap.size w w' := by
  have hC : checkB 3 0 s.data.toList = (validL s.data.toList && decide (countL s.data.toList ≤ 100)) := by simp [checkB]
  have hb0 : Below w.heap.size w (w.alloc (.cells #[.int .i64 3, .int .i64 0, .string s] 32)) := (Below.refl _ _).alloc (Nat.le_refl _) _
  by_cases hlen : s.size ≤ 400
  · have hlz : decide ((s.size : Int) ≤ 400) = true := by simp; omega
    have cN : ∀ w, Calls Tryz.prog 76 #[.string s] w fun e w' => e = .returned (.int .i64 ((countL s.data.toList : Nat) : Int)) ∧ Below w.heap.size w w' := fun w => refCount_any s w (by omega)
    have cV := fun w => refValid_any s w (by omega)
    rw [hC]; clear hC
    obtain ⟨Z, hZ⟩ : ∃ Z, validL s.data.toList = Z := ⟨_, rfl⟩
    obtain ⟨N, hN⟩ : ∃ N, countL s.data.toList = N := ⟨_, rfl⟩
    rw [hZ] at cV ⊢
    rw [hN] at cN ⊢
    clear hZ hN
    cases Z
    · go_enter Tryz.func58, Tryz.ntmps58
      go_wp2_with fail
      refine (cV _).mono ?_
      rintro e w1 ⟨rfl, hb1⟩
      go_wp2
      go_ret
      exact ⟨rfl, hb0.trans (hb1.mono (by simp))⟩
    · go_enter Tryz.func58, Tryz.ntmps58
      go_wp2_with fail
      refine (cV _).mono ?_
      rintro e w1 ⟨rfl, hb1⟩
      have hb2 := hb0.trans (hb1.mono (by simp))
      have hc : w1.cell? ⟨w.heap.size, 2, none⟩ = some (.string s) := by
        rw [hb1.cell (p := ⟨w.heap.size, 2, none⟩) (by simp), cells_of_alloc]; rfl
      clear hb1 hb0
      go_wp2_with fail
      refine (cN _).mono ?_
      rintro e w2 ⟨rfl, hb3⟩
      go_wp2
      go_ret
      refine ⟨ret_bool ?_, hb2.trans (hb3.mono hb2.size)⟩
      rw [Bool.true_and]; exact decide_eq_decide.2 (by omega)
  · have hF : checkB 3 0 s.data.toList = false := by
      rw [hC, Bool.and_eq_false_iff]; right
      exact decide_eq_false (fun h => hlen (count_len s h))
    rw [hF]
    clear hC hF
    have hlz : ¬ ((s.size : Int) ≤ 400) := by omega
    go_enter Tryz.func58, Tryz.ntmps58
    go_wp2
    go_ret
    exact ⟨rfl, hb0⟩

set_option maxHeartbeats 4000000 in
set_option maxRecDepth 100000 in
theorem refCheck_any (K n : Int) (s : ByteArray) (w : World) :
    Calls Tryz.prog 58 #[V3 K n s] w fun e w' => e = .returned (.bool (checkB K n s.data.toList)) ∧ Below w.heap.size w w' := by
  by_cases h3 : K = 3 ∧ n = 0
  · obtain ⟨rfl, rfl⟩ := h3
    exact refCheck_text s w
  obtain ⟨V, hV⟩ : ∃ V, checkB K n s.data.toList = V := ⟨_, rfl⟩
  rw [hV]
  have HV := Lib.hid hV
  have H3 := Lib.hid h3
  clear hV h3
  by_cases hn : n = 0
  · subst hn
    have hk3 : (K == 3) = false := beq_eq_false_iff_ne.2 (fun h => H3.out ⟨h, rfl⟩)
    go_enter Tryz.func58, Tryz.ntmps58
    go_wp2_with fail
    all_goals simp only [beq_iff_eq, beq_eq_false_iff_ne, ne_eq] at *
    all_goals
      (go_ret
       refine ⟨ret_bool ?_, (Below.refl _ _).alloc (Nat.le_refl _) _⟩
       rw [← HV.out]
       first
         | (simp_all [checkB, emp]; done)
         | (simp_all [checkB]; omega))
  · go_enter Tryz.func58, Tryz.ntmps58
    go_wp2_with fail
    all_goals simp only [beq_iff_eq, beq_eq_false_iff_ne, ne_eq] at *
    all_goals
      (go_ret
       refine ⟨ret_bool ?_, (Below.refl _ _).alloc (Nat.le_refl _) _⟩
       rw [← HV.out]
       first
         | (simp_all [checkB, emp]; done)
         | (simp_all [checkB]; done)
         | (simp_all [checkB]; omega))
end
/- The contracts of value.Get and of the document's own: a value out of a reader's bytes, or nothing and a failed reader. -/
section
open Go.RowKit

/-- What a reader's bytes say, and what is left. -/
def getS (s : St) : (Int × Int × List UInt8) × St :=
  let a := stI s
  let b := stI a.2
  let c := stT 400 b.2
  if c.2.2 = false ∧ checkB a.1 b.1 c.1 = true then ((a.1, b.1, c.1), c.2) else ((0, 0, []), ([], true))
theorem stT_len (s : St) : (stT 400 s).1.length ≤ 400 := by
  have h : (stC 400 s).1 ≤ 400 := by
    by_cases h : 0 ≤ (stI s).1 ∧ (stI s).1 ≤ 400 ∧ (stI s).1 ≤ ((stI s).2.1.length : Int)
    · rw [stC_yes h]; exact h.2.1
    · rw [stC_no h]; decide
  unfold stT
  dsimp only
  rw [List.length_take]
  omega
theorem get_yes {s : St} (h : (stT 400 (stI (stI s).2).2).2.2 = false) (hc : checkB (stI s).1 (stI (stI s).2).1 (stT 400 (stI (stI s).2).2).1 = true) : getS s = (((stI s).1, (stI (stI s).2).1, (stT 400 (stI (stI s).2).2).1), (stT 400 (stI (stI s).2).2).2) := if_pos ⟨h, hc⟩
theorem get_no {s : St} (h : ¬ ((stT 400 (stI (stI s).2).2).2.2 = false ∧ checkB (stI s).1 (stI (stI s).2).1 (stT 400 (stI (stI s).2).2).1 = true)) : getS s = ((0, 0, []), ([], true)) := if_neg h

/-- A value lies in block V. -/
def Vl (w : World) (V : Nat) (K n : Int) (t : ByteArray) : Prop := w.heap[V]? = some (.cells #[.int .i64 K, .int .i64 n, .string t] 32 (0, 0))
section
variable {w w' : World} {V g : Nat} {K n : Int} {t : ByteArray}
theorem Vl.lt (h : Vl w V K n t) : V < w.heap.size := by
  rcases Nat.lt_or_ge V w.heap.size with hlt | hge
  · exact hlt
  · unfold Vl at h; rw [Array.getElem?_eq_none hge] at h; cases h
theorem Vl.new (w : World) (K n : Int) (t : ByteArray) (ty : TypeId) (h : ty = 32) : Vl (w.alloc (.cells #[.int .i64 K, .int .i64 n, .string t] ty)) w.heap.size K n t := by subst h; exact heap_alloc_new w _
theorem Vl.apart (h : Vl w V K n t) {b off : Nat} {c : Int} (hc : w.cell? ⟨b, off, none⟩ = some (.int .u8 c)) : b ≠ V := by
  rintro rfl
  unfold Vl at h
  rw [cell_of_row w b off _ _ _ h] at hc
  match off with
  | 0 => simp at hc
  | 1 => simp at hc
  | 2 => simp at hc
  | k + 3 => simp at hc
theorem Vl.other (h : Vl w V K n t) (ho : Only g w w') (hne : V ≠ g) : Vl w' V K n t := (ho.block V hne).trans h
theorem Vl.later (h : Vl w V K n t) (hb : Below w.heap.size w w') : Vl w' V K n t := (hb.block V h.lt).trans h
theorem Vl.cells (h : Vl w V K n t) : w.cell? ⟨V, 0, none⟩ = some (.int .i64 K) ∧ w.cell? ⟨V, 1, none⟩ = some (.int .i64 n) ∧ w.cell? ⟨V, 2, none⟩ = some (.string t) ∧ w.frozen? ⟨V, 0, none⟩ = false ∧ w.frozen? ⟨V, 1, none⟩ = false ∧ w.frozen? ⟨V, 2, none⟩ = false := by
  unfold Vl at h
  refine ⟨?_, ?_, ?_, ?_, ?_, ?_⟩
  · rw [cell_of_row w V 0 _ _ _ h]; rfl
  · rw [cell_of_row w V 1 _ _ _ h]; rfl
  · rw [cell_of_row w V 2 _ _ _ h]; rfl
  · simp [World.frozen?, h]
  · simp [World.frozen?, h]
  · simp [World.frozen?, h]
theorem Vl.set0 (h : Vl w V K n t) (m : Int) : Vl (w.setCell ⟨V, 0, none⟩ (.int .i64 m)) V m n t := by
  unfold Vl at h ⊢; rw [heap_setCell_same w V 0 _ _ _ h]; rfl
theorem Vl.set1 (h : Vl w V K n t) (m : Int) : Vl (w.setCell ⟨V, 1, none⟩ (.int .i64 m)) V K m t := by
  unfold Vl at h ⊢; rw [heap_setCell_same w V 1 _ _ _ h]; rfl
theorem Vl.set2 (h : Vl w V K n t) (u : ByteArray) : Vl (w.setCell ⟨V, 2, none⟩ (.string u)) V K n u := by
  unfold Vl at h ⊢; rw [heap_setCell_same w V 2 _ _ _ h]; rfl
theorem Only.one (w : World) (V i : Nat) (u : Value) : Only V w (w.setCell ⟨V, i, none⟩ u) := (Only.refl V w).setCell i u
theorem Rd.otherV {N : Nat} {s : St} (hr : Rd N w g s) (h : Vl w V K n t) (ho : Only V w w') (hne : g ≠ V) : Rd N w' g s := by
  obtain ⟨h1, h2, h3, A', cap', h4, h5, h6⟩ := hr
  refine ⟨h1, h2, h3, A', cap', (ho.block g hne).trans h4, h5, fun h0 => ?_⟩
  obtain ⟨b, off, e, hN, hc⟩ := h6 h0
  refine ⟨b, off, e, hN, fun j hj => ?_⟩
  exact (World.cell?_of_block (w := w) (a := ⟨b, off + j, none⟩) (ho.block b (h.apart (hc j hj)))).trans (hc j hj)
theorem Bs.otherV {A : Option Addr} {L : List UInt8} (hB : Bs w A L) (h : Vl w V K n t) (ho : Only V w w') : Bs w' A L := fun h0 => by
  obtain ⟨b, off, e, hc⟩ := hB h0
  refine ⟨b, off, e, fun j hj => ?_⟩
  exact (World.cell?_of_block (w := w) (a := ⟨b, off + j, none⟩) (ho.block b (h.apart (hc j hj)))).trans (hc j hj)
theorem RR.otherV {s : St} (hr : RR w g s) (h : Vl w V K n t) (ho : Only V w w') (hne : g ≠ V) : RR w' g s := by
  obtain ⟨A, C, cap, at_, hb, e⟩ := hr
  exact ⟨A, C, cap, at_, ⟨(ho.block g hne).trans hb.1, hb.2.1.otherV h ho, hb.2.2⟩, e⟩
theorem RR.later {s : St} (hr : RR w g s) (hb : Below w.heap.size w w') : RR w' g s := by
  obtain ⟨A, C, cap, at_, hR, e⟩ := hr
  exact ⟨A, C, cap, at_, ⟨(hb.block g hR.lt).trans hR.1, hR.2.1.below hb, hR.2.2⟩, e⟩
theorem RR.lt {s : St} (hr : RR w g s) : g < w.heap.size := by obtain ⟨A, C, cap, at_, hR, e⟩ := hr; exact hR.lt
end
/-- One block, and new ones, may have turned. -/
structure Onl (g : Nat) (w w' : World) : Prop where
  os : w'.os = w.os
  tape : w'.tape = w.tape
  output : w'.output = w.output
  size : w.heap.size ≤ w'.heap.size
  block : ∀ k, k < w.heap.size → k ≠ g → w'.heap[k]? = w.heap[k]?
theorem Onl.refl (g : Nat) (w : World) : Onl g w w := ⟨rfl, rfl, rfl, Nat.le_refl _, fun _ _ _ => rfl⟩
theorem Onl.only {g : Nat} {w x y : World} (h : Onl g w x) (k : Only g x y) : Onl g w y :=
  ⟨k.os.trans h.os, k.tape.trans h.tape, k.output.trans h.output, Nat.le_trans h.size (Nat.le_of_eq k.size.symm), fun i hi hg => (k.block i hg).trans (h.block i hi hg)⟩
theorem Onl.later {g : Nat} {w x y : World} (h : Onl g w x) (k : Below x.heap.size x y) : Onl g w y :=
  ⟨k.os.trans h.os, k.tape.trans h.tape, k.output.trans h.output, Nat.le_trans h.size k.size, fun i hi hg => (k.block i (by have := h.size; omega)).trans (h.block i hi hg)⟩
theorem Onl.new {g V : Nat} {w x y : World} (h : Onl g w x) (k : Only V x y) (hV : w.heap.size ≤ V) : Onl g w y :=
  ⟨k.os.trans h.os, k.tape.trans h.tape, k.output.trans h.output, Nat.le_trans h.size (Nat.le_of_eq k.size.symm), fun i hi hg => (k.block i (by omega)).trans (h.block i hi hg)⟩
theorem Onl.below {g B : Nat} {w w' : World} (h : Onl g w w') (hg : B ≤ g) (hB : B ≤ w.heap.size) : Below B w w' :=
  ⟨h.os, h.tape, h.output, h.size, fun k hk => h.block k (by omega) (by omega)⟩

/-- What Get leaves. -/
def GotV (N g : Nat) (w : World) (s : St) (e : Ending) (w' : World) : Prop := e = .returned (V3 (getS s).1.1 (getS s).1.2.1 ⟨(getS s).1.2.2.toArray⟩) ∧ Rd N w' g (getS s).2 ∧ Onl g w w'
def GotR (g : Nat) (w : World) (s : St) (e : Ending) (w' : World) : Prop := e = .returned (V3 (getS s).1.1 (getS s).1.2.1 ⟨(getS s).1.2.2.toArray⟩) ∧ RR w' g (getS s).2 ∧ Onl g w w'

/-- The result is written. -/
theorem set3 {g R : Nat} {w w8 : World} (K n : Int) (t : ByteArray) (ho : Onl g w w8) (hR : w.heap.size ≤ R) :
    Onl g w (((w8.setCell ⟨R, 0, none⟩ (.int .i64 K)).setCell ⟨R, 1, none⟩ (.int .i64 n)).setCell ⟨R, 2, none⟩ (.string t)) :=
  ((ho.new (Only.one _ _ _ _) hR).new (Only.one _ _ _ _) hR).new (Only.one _ _ _ _) hR
theorem put3 {N g : Nat} {w w8 : World} {s' : St} {a b : Int} {c : ByteArray} (K n : Int) (t : ByteArray) (h : Rd N w8 g s') (hr : Vl w8 w.heap.size a b c) (ho : Onl g w w8) (hg : ¬ g = w.heap.size) :
    Rd N (((w8.setCell ⟨w.heap.size, 0, none⟩ (.int .i64 K)).setCell ⟨w.heap.size, 1, none⟩ (.int .i64 n)).setCell ⟨w.heap.size, 2, none⟩ (.string t)) g s' ∧
    Onl g w (((w8.setCell ⟨w.heap.size, 0, none⟩ (.int .i64 K)).setCell ⟨w.heap.size, 1, none⟩ (.int .i64 n)).setCell ⟨w.heap.size, 2, none⟩ (.string t)) :=
  ⟨((h.otherV hr (Only.one _ _ _ _) hg).otherV (hr.set0 K) (Only.one _ _ _ _) hg).otherV ((hr.set0 K).set1 n) (Only.one _ _ _ _) hg, set3 K n t ho (Nat.le_refl _)⟩
theorem put3R {g : Nat} {w w8 : World} {s' : St} {a b : Int} {c : ByteArray} (K n : Int) (t : ByteArray) (h : RR w8 g s') (hr : Vl w8 w.heap.size a b c) (ho : Onl g w w8) (hg : ¬ g = w.heap.size) :
    RR (((w8.setCell ⟨w.heap.size, 0, none⟩ (.int .i64 K)).setCell ⟨w.heap.size, 1, none⟩ (.int .i64 n)).setCell ⟨w.heap.size, 2, none⟩ (.string t)) g s' ∧
    Onl g w (((w8.setCell ⟨w.heap.size, 0, none⟩ (.int .i64 K)).setCell ⟨w.heap.size, 1, none⟩ (.int .i64 n)).setCell ⟨w.heap.size, 2, none⟩ (.string t)) :=
  ⟨((h.otherV hr (Only.one _ _ _ _) hg).otherV (hr.set0 K) (Only.one _ _ _ _) hg).otherV ((hr.set0 K).set1 n) (Only.one _ _ _ _) hg, set3 K n t ho (Nat.le_refl _)⟩

set_option maxHeartbeats 2000000 in
set_option maxRecDepth 100000 in
theorem get_any (N g : Nat) (s : St) (w : World) (h : Rd N w g s) (hT : ∀ w', Onl g w w' → Tabs w') :
    Calls Tryz.prog 94 #[.pointer (some ⟨g, 0, none⟩)] w (GotV N g w s) := by
  have hg := h.lt
  have hb0 := below_alloc w (.cells #[.int .i64 0, .int .i64 0, .string ⟨#[]⟩] 32)
  have hr0 := Vl.new w 0 0 ⟨#[]⟩ 32 rfl
  have h0 := h.below hb0 (Nat.le_refl _)
  have o0 := (Onl.refl g w).later hb0
  obtain ⟨w0, hw0⟩ : ∃ w0, w.alloc (.cells #[.int .i64 0, .int .i64 0, .string ⟨#[]⟩] 32) = w0 := ⟨_, rfl⟩
  rw [hw0] at hr0 h0 o0
  have c1 := int_any N g s w0 h0
  have hY := get_yes (s := s)
  have hN := get_no (s := s)
  obtain ⟨K, hK⟩ : ∃ K, (stI s).1 = K := ⟨_, rfl⟩
  obtain ⟨s1, hs1⟩ : ∃ s1, (stI s).2 = s1 := ⟨_, rfl⟩
  rw [hK, hs1] at c1 hY hN
  have c2 := fun w h => int_any N g s1 w h
  obtain ⟨n, hn⟩ : ∃ n, (stI s1).1 = n := ⟨_, rfl⟩
  obtain ⟨s2, hs2⟩ : ∃ s2, (stI s1).2 = s2 := ⟨_, rfl⟩
  simp only [hn, hs2] at c2 hY hN
  have c3 := fun w h => wtext_any N g s2 400 w h
  obtain ⟨L, hL⟩ : ∃ L, (stT 400 s2).1 = L := ⟨_, rfl⟩
  obtain ⟨s3, hs3⟩ : ∃ s3, (stT 400 s2).2 = s3 := ⟨_, rfl⟩
  simp only [hL, hs3] at c3 hY hN
  have hLz : L.length ≤ 400 := by rw [← hL]; exact stT_len s2
  have HY := Lib.hid hY
  have HN := Lib.hid hN
  have HR := Lib.hid h
  obtain ⟨t, ht⟩ : ∃ t : ByteArray, (⟨L.toArray⟩ : ByteArray) = t := ⟨_, rfl⟩
  have htd : t.data.toList = L := by rw [← ht]
  have htz : t.size ≤ 400 := by rw [← ht]; show L.toArray.size ≤ 400; rw [List.size_toArray]; exact hLz
  simp only [ht] at c3
  have HTD := Lib.hid htd
  have HT := Lib.hid ht
  clear h hK hs1 hn hs2 hL hs3 hY hN hb0 ht htd
  go_enter Tryz.func94, Tryz.ntmps94
  go_wp2_with fail
  refine c1.mono ?_
  rintro e w1 ⟨rfl, hR1, hO1⟩
  have r1 := hr0.other hO1 (by omega)
  have o1 := o0.only hO1
  have hg1 := hR1.lt
  have hv2 := Vl.new w1 K 0 ⟨#[]⟩ 32 rfl
  have hba := below_alloc w1 (.cells #[.int .i64 K, .int .i64 0, .string ⟨#[]⟩] 32)
  have hR2 := hR1.below hba (Nat.le_refl _)
  have r2 := r1.later hba
  have o2 := o1.later hba
  have hV : w.heap.size ≤ w1.heap.size := o1.size
  have hVR : ¬ w.heap.size = w1.heap.size := by have := r1.lt; omega
  have hgV : ¬ g = w1.heap.size := by omega
  have hgR : ¬ g = w.heap.size := by omega
  clear hba r1 o1 hR1 hO1 h0 hr0 o0 hw0
  go_wp2_with fail
  generalize hw2 : w1.alloc (.cells #[.int .i64 K, .int .i64 0, .string ⟨#[]⟩] 32) = w2 at *
  refine (c2 w2 hR2).mono ?_
  rintro e w3 ⟨rfl, hR3, hO3⟩
  have v3 := hv2.other hO3 (by omega)
  have r3 := r2.other hO3 (by omega)
  have o3 := o2.only hO3
  clear hv2 hR2 r2 o2 hO3 hw2
  obtain ⟨z0, z1, z2, f0, f1, f2⟩ := v3.cells
  have v4 := v3.set1 n
  have hs4 := Only.one w3 w1.heap.size 1 (.int .i64 n)
  have hR4 := hR3.otherV v3 hs4 hgV
  have r4 := r3.other hs4 hVR
  have o4 := o3.new hs4 hV
  go_wp2_with fail
  generalize hw4 : w3.setCell ⟨w1.heap.size, 1, none⟩ (.int .i64 n) = w4 at *
  refine (c3 w4 hR4).mono ?_
  rintro e w5 ⟨rfl, hR5, hO5⟩
  have v5 := v4.other hO5 (by omega)
  have r5 := r4.other hO5 (by omega)
  have o5 := o4.only hO5
  clear v4 hR4 r4 o4 hO5 hw4 v3 hR3 r3 o3 hs4 z0 z1 z2 f0 f1 f2 c1 c2 c3
  obtain ⟨z0, z1, z2, f0, f1, f2⟩ := v5.cells
  have v6 := v5.set2 t
  have hs6 := Only.one w5 w1.heap.size 2 (.string t)
  have hR6 := hR5.otherV v5 hs6 hgV
  have r6 := r5.other hs6 hVR
  have o6 := o5.new hs6 hV
  go_wp2_with fail
  generalize hw6 : w5.setCell ⟨w1.heap.size, 2, none⟩ (.string t) = w6 at *
  refine (ok_any N g s3 w6 hR6).mono ?_
  rintro e w7 ⟨rfl, rfl⟩
  clear v5 hR5 r5 o5 hw6 hs6 z0 z1 z2 f0 f1 f2
  obtain ⟨z0, z1, z2, f0, f1, f2⟩ := v6.cells
  have hTw := hT _ o6
  have cf := fail_any N g s3 w6 hR6
  clear hT
  obtain ⟨L3, b3⟩ := s3
  cases b3 with
  | true =>
    have hno := HN.out (fun h => by cases h.1)
    go_wp2_with fail
    refine cf.mono ?_
    rintro e w8 ⟨rfl, hR8, hO8⟩
    have r8 := r6.other hO8 (by omega)
    have o8 := o6.only hO8
    obtain ⟨y0, y1, y2, e0, e1, e2⟩ := r8.cells
    have hfin := put3 0 0 ⟨#[]⟩ hR8 r8 o8 hgR
    have HF := Lib.hid hfin
    have HNo := Lib.hid hno
    clear hfin hno cf
    go_wp2
    exact bodyPost_ret (v := V3 0 0 ⟨#[]⟩) (by simp [results, Tryz.results94, go_sem, y0, y1, y2]) rfl ⟨by rw [HNo.out], by rw [HNo.out]; exact HF.out.1, HF.out.2⟩
  | false =>
    have cC := check_any K n t w6 (by omega) hTw
    rw [HTD.out] at cC
    cases hc : checkB K n L with
    | false =>
      have hno := HN.out (fun h => by rw [hc] at h; cases h.2)
      rw [hc] at cC
      go_wp2_with fail
      refine cC.mono ?_
      rintro e w7 ⟨rfl, hb7⟩
      have cf := fail_any N g (L3, false) w7 (hR6.below hb7 (Nat.le_refl _))
      have r7 := r6.later hb7
      have o7 := o6.later hb7
      clear cC hR6 r6 o6 v6 hb7 z0 z1 z2 f0 f1 f2
      go_wp2_with fail
      refine cf.mono ?_
      rintro e w8 ⟨rfl, hR8, hO8⟩
      have r8 := r7.other hO8 (by omega)
      have o8 := o7.only hO8
      obtain ⟨y0, y1, y2, e0, e1, e2⟩ := r8.cells
      have hfin := put3 0 0 ⟨#[]⟩ hR8 r8 o8 hgR
      have HF := Lib.hid hfin
      have HNo := Lib.hid hno
      clear hfin hno cf
      go_wp2
      exact bodyPost_ret (v := V3 0 0 ⟨#[]⟩) (by simp [results, Tryz.results94, go_sem, y0, y1, y2]) rfl ⟨by rw [HNo.out], by rw [HNo.out]; exact HF.out.1, HF.out.2⟩
    | true =>
      have hyes := HY.out rfl hc
      rw [hc] at cC
      go_wp2_with fail
      refine cC.mono ?_
      rintro e w7 ⟨rfl, hb7⟩
      have hR7 := hR6.below hb7 (Nat.le_refl _)
      have r7 := r6.later hb7
      have v7 := v6.later hb7
      have o7 := o6.later hb7
      clear cC hR6 r6 o6 v6 hb7 z0 z1 z2 f0 f1 f2 cf
      obtain ⟨z0, z1, z2, f0, f1, f2⟩ := v7.cells
      obtain ⟨y0, y1, y2, e0, e1, e2⟩ := r7.cells
      have hfin := put3 K n t hR7 r7 o7 hgR
      have HF := Lib.hid hfin
      have HYes := Lib.hid hyes
      clear hfin hyes
      go_wp2
      exact bodyPost_ret (v := V3 K n t) (by simp [results, Tryz.results94, go_sem, y0, y1, y2]) rfl ⟨by rw [HYes.out, ← HT.out], by rw [HYes.out]; exact HF.out.1, HF.out.2⟩
end
/- The contract of the document's own Get. -/
section
open Go.RowKit

set_option maxHeartbeats 2000000 in
set_option maxRecDepth 100000 in
theorem refget_any (g : Nat) (s : St) (w : World) (h : RR w g s) :
    Calls Tryz.prog 65 #[.pointer (some ⟨g, 0, none⟩)] w (GotR g w s) := by
  have hg := h.lt
  have hba := below_alloc w (.cells #[.int .i64 0, .int .i64 0, .string ⟨#[]⟩] 32)
  have hbb := below_alloc (w.alloc (.cells #[.int .i64 0, .int .i64 0, .string ⟨#[]⟩] 32)) (.cells #[.int .i64 0, .int .i64 0, .string ⟨#[]⟩] 32)
  have hr0 := (Vl.new w 0 0 ⟨#[]⟩ 32 rfl).later hbb
  have hv0 := Vl.new (w.alloc (.cells #[.int .i64 0, .int .i64 0, .string ⟨#[]⟩] 32)) 0 0 ⟨#[]⟩ 32 rfl
  have hz : (w.alloc (.cells #[.int .i64 0, .int .i64 0, .string ⟨#[]⟩] 32)).heap.size = w.heap.size + 1 := by simp
  rw [hz] at hv0
  have h0 := (h.later hba).later hbb
  have o0 := ((Onl.refl g w).later hba).later hbb
  have c1 := refrint_any g s _ h0
  have hY := get_yes (s := s)
  have hN := get_no (s := s)
  obtain ⟨K, hK⟩ : ∃ K, (stI s).1 = K := ⟨_, rfl⟩
  obtain ⟨s1, hs1⟩ : ∃ s1, (stI s).2 = s1 := ⟨_, rfl⟩
  rw [hK, hs1] at c1 hY hN
  have c2 := fun w h => refrint_any g s1 w h
  obtain ⟨n, hn⟩ : ∃ n, (stI s1).1 = n := ⟨_, rfl⟩
  obtain ⟨s2, hs2⟩ : ∃ s2, (stI s1).2 = s2 := ⟨_, rfl⟩
  simp only [hn, hs2] at c2 hY hN
  have c3 := fun w h => refrtext_any g s2 400 w h
  obtain ⟨L, hL⟩ : ∃ L, (stT 400 s2).1 = L := ⟨_, rfl⟩
  obtain ⟨s3, hs3⟩ : ∃ s3, (stT 400 s2).2 = s3 := ⟨_, rfl⟩
  simp only [hL, hs3] at c3 hY hN
  have hLz : L.length ≤ 400 := by rw [← hL]; exact stT_len s2
  have HY := Lib.hid hY
  have HN := Lib.hid hN
  have HR := Lib.hid h
  obtain ⟨t, ht⟩ : ∃ t : ByteArray, (⟨L.toArray⟩ : ByteArray) = t := ⟨_, rfl⟩
  have htd : t.data.toList = L := by rw [← ht]
  have htz : t.size ≤ 400 := by rw [← ht]; show L.toArray.size ≤ 400; rw [List.size_toArray]; exact hLz
  simp only [ht] at c3
  have HTD := Lib.hid htd
  have HT := Lib.hid ht
  clear h hK hs1 hn hs2 hL hs3 hY hN hba hbb hz ht htd
  go_enter Tryz.func65, Tryz.ntmps65
  go_wp2_with fail
  generalize hw0 : (w.alloc (.cells #[.int .i64 0, .int .i64 0, .string ⟨#[]⟩] 32)).alloc (.cells #[.int .i64 0, .int .i64 0, .string ⟨#[]⟩] 32) = w0 at *
  refine c1.mono ?_
  rintro e w1 ⟨rfl, hR1, hO1⟩
  have hgR : ¬ g = w.heap.size := by omega
  have hgV : ¬ g = w.heap.size + 1 := by omega
  have hVR : ¬ w.heap.size = w.heap.size + 1 := by omega
  have hV : w.heap.size ≤ w.heap.size + 1 := by omega
  have r1 := hr0.other hO1 (by omega)
  have v1 := hv0.other hO1 (by omega)
  have o1 := o0.only hO1
  clear hw0 hO1 hr0 hv0 h0 o0
  obtain ⟨z0, z1, z2, f0, f1, f2⟩ := v1.cells
  have v2 := v1.set0 K
  have hs2 := Only.one w1 (w.heap.size + 1) 0 (.int .i64 K)
  have hR2 := hR1.otherV v1 hs2 hgV
  have r2 := r1.other hs2 hVR
  have o2 := o1.new hs2 hV
  go_wp2_with fail
  generalize hw2 : w1.setCell ⟨w.heap.size + 1, 0, none⟩ (.int .i64 K) = w2 at *
  refine (c2 w2 hR2).mono ?_
  rintro e w3 ⟨rfl, hR3, hO3⟩
  have v3 := v2.other hO3 (by omega)
  have r3 := r2.other hO3 (by omega)
  have o3 := o2.only hO3
  clear v2 hR2 r2 o2 hO3 hw2 v1 hR1 r1 o1 hs2 z0 z1 z2 f0 f1 f2
  obtain ⟨z0, z1, z2, f0, f1, f2⟩ := v3.cells
  have v4 := v3.set1 n
  have hs4 := Only.one w3 (w.heap.size + 1) 1 (.int .i64 n)
  have hR4 := hR3.otherV v3 hs4 hgV
  have r4 := r3.other hs4 hVR
  have o4 := o3.new hs4 hV
  go_wp2_with fail
  generalize hw4 : w3.setCell ⟨w.heap.size + 1, 1, none⟩ (.int .i64 n) = w4 at *
  refine (c3 w4 hR4).mono ?_
  rintro e w5 ⟨rfl, hR5, hO5⟩
  have v5 := v4.other hO5 (by omega)
  have r5 := r4.other hO5 (by omega)
  have o5 := o4.only hO5
  clear v4 hR4 r4 o4 hO5 hw4 v3 hR3 r3 o3 hs4 z0 z1 z2 f0 f1 f2 c1 c2 c3
  obtain ⟨z0, z1, z2, f0, f1, f2⟩ := v5.cells
  have v6 := v5.set2 t
  have hs6 := Only.one w5 (w.heap.size + 1) 2 (.string t)
  have hR6 := hR5.otherV v5 hs6 hgV
  have r6 := r5.other hs6 hVR
  have o6 := o5.new hs6 hV
  have hgR2 : ¬ w.heap.size = g := fun e => hgR e.symm
  have hgV2 : ¬ w.heap.size + 1 = g := fun e => hgV e.symm
  have hVR2 : ¬ w.heap.size + 1 = w.heap.size := by omega
  obtain ⟨L3, b3⟩ := s3
  have hc5 : w5.cell? ⟨g, 2, none⟩ = some (.bool b3) ∧ w5.frozen? ⟨g, 2, none⟩ = false := by obtain ⟨A, C, cap, at_, hRB, -⟩ := hR5; exact ⟨hRB.cells.2.2.1, hRB.cells.2.2.2.2⟩
  have hc6 : (w5.setCell ⟨w.heap.size + 1, 2, none⟩ (.string t)).cell? ⟨g, 2, none⟩ = some (.bool b3) ∧ (w5.setCell ⟨w.heap.size + 1, 2, none⟩ (.string t)).frozen? ⟨g, 2, none⟩ = false := by obtain ⟨A, C, cap, at_, hRB, -⟩ := hR6; exact ⟨hRB.cells.2.2.1, hRB.cells.2.2.2.2⟩
  obtain ⟨hc5, hf5⟩ := hc5
  obtain ⟨hc6, hf6⟩ := hc6
  cases b3 with
  | true =>
    have hno := HN.out (fun h => by cases h.1)
    have hRd : RR ((w5.setCell ⟨w.heap.size + 1, 2, none⟩ (.string t)).setCell ⟨g, 2, none⟩ (.bool true)) g ([], true) := by obtain ⟨A, C, cap, at_, hRB, -⟩ := hR6; exact RR.dead hRB.setBad
    have r7 := r6.other (Only.one _ g 2 (.bool true)) hgR2
    have o7 := o6.only (Only.one _ g 2 (.bool true))
    have hfin := put3R 0 0 ⟨#[]⟩ hRd r7 o7 hgR
    obtain ⟨y0, y1, y2, e0, e1, e2⟩ := r7.cells
    obtain ⟨x0, x1, x2, d0, d1, d2⟩ := r5.cells
    have HF := Lib.hid hfin
    have HNo := Lib.hid hno
    clear hfin hno hRd
    go_wp2
    exact bodyPost_ret (v := V3 0 0 ⟨#[]⟩) (by simp [results, Tryz.results65, go_sem, y0, y1, y2]) rfl ⟨by rw [HNo.out], by rw [HNo.out]; exact HF.out.1, HF.out.2⟩
  | false =>
    have cC := refCheck_any K n t (w5.setCell ⟨w.heap.size + 1, 2, none⟩ (.string t))
    rw [HTD.out] at cC
    obtain ⟨x0, x1, x2, d0, d1, d2⟩ := v6.cells
    cases hc : checkB K n L with
    | false =>
      have hno := HN.out (fun h => by rw [hc] at h; cases h.2)
      rw [hc] at cC
      go_wp2_with fail
      refine cC.mono ?_
      rintro e w7 ⟨rfl, hb7⟩
      have hR7 := hR6.later hb7
      have r7 := r6.later hb7
      have o7 := o6.later hb7
      have hc7 : w7.cell? ⟨g, 2, none⟩ = some (.bool false) ∧ w7.frozen? ⟨g, 2, none⟩ = false := by obtain ⟨A, C, cap, at_, hRB, -⟩ := hR7; exact ⟨hRB.cells.2.2.1, hRB.cells.2.2.2.2⟩
      obtain ⟨hc7, hf7⟩ := hc7
      have hRd : RR (w7.setCell ⟨g, 2, none⟩ (.bool true)) g ([], true) := by obtain ⟨A, C, cap, at_, hRB, -⟩ := hR7; exact RR.dead hRB.setBad
      have r8 := r7.other (Only.one _ g 2 (.bool true)) hgR2
      have o8 := o7.only (Only.one _ g 2 (.bool true))
      have hfin := put3R 0 0 ⟨#[]⟩ hRd r8 o8 hgR
      clear cC hR6 r6 o6 v6 hb7 z0 z1 z2 f0 f1 f2 x0 x1 x2 d0 d1 d2 hc5 hf5 hc6 hf6 hR7 o7 hs6
      obtain ⟨y0, y1, y2, e0, e1, e2⟩ := r8.cells
      obtain ⟨x0, x1, x2, d0, d1, d2⟩ := r7.cells
      have HF := Lib.hid hfin
      have HNo := Lib.hid hno
      clear hfin hno hRd
      go_wp2
      exact bodyPost_ret (v := V3 0 0 ⟨#[]⟩) (by simp [results, Tryz.results65, go_sem, y0, y1, y2]) rfl ⟨by rw [HNo.out], by rw [HNo.out]; exact HF.out.1, HF.out.2⟩
    | true =>
      have hyes := HY.out rfl hc
      rw [hc] at cC
      go_wp2_with fail
      refine cC.mono ?_
      rintro e w7 ⟨rfl, hb7⟩
      have hR7 := hR6.later hb7
      have r7 := r6.later hb7
      have v7 := v6.later hb7
      have o7 := o6.later hb7
      clear cC hR6 r6 o6 v6 hb7 z0 z1 z2 f0 f1 f2 x0 x1 x2 d0 d1 d2 hc5 hf5 hc6 hf6 hs6
      obtain ⟨z0, z1, z2, f0, f1, f2⟩ := v7.cells
      obtain ⟨y0, y1, y2, e0, e1, e2⟩ := r7.cells
      have hfin := put3R K n t hR7 r7 o7 hgR
      have HF := Lib.hid hfin
      have HYes := Lib.hid hyes
      clear hfin hyes
      go_wp2
      exact bodyPost_ret (v := V3 K n t) (by simp [results, Tryz.results65, go_sem, y0, y1, y2]) rfl ⟨by rw [HYes.out, ← HT.out], by rw [HYes.out]; exact HF.out.1, HF.out.2⟩
end
end Go.Proofs.YtindkpfmflcibaaGreatDoor
