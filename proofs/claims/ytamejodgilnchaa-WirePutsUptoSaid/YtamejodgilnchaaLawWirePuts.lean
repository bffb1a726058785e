/- The statement WirePuts (the second form): any number, truth, text is put behind any bytes as the document says; the room behind them stays. Conditions: the arguments' bulk is at most 1048576, as the statement says. -/
import Derived.Test.YtamejodgilnchaaWireAwake
import Derived.Test.YtamejodgilnchaaHeldList
import Derived.Deep.AppendLies
import Derived.Test.YtamejodgilnchaaBulk
namespace Go.Proofs.Ytamejodgilnchaa
open Go.ChangeShapes Go.WideShapes Go.ChangeAt Go.RowKit

theorem onto_first {B : Nat} {w : World} {v : Value} {L : List UInt8} (h : w.ownsRow B 5 1 v (0 + L.length) ([] ++ Lib.byteCells L)) : Onto B w v L := by
  rw [Nat.zero_add, List.nil_append] at h
  exact .inr h
/-- The bytes and one more, in a row of the call's own: its form. -/
theorem own_put {B : Nat} {w : World} {v : Value} {L : List UInt8} (h : w.ownsRow B 5 1 v (L ++ [99]).length (Lib.byteCells (L ++ [99]))) :
    ∃ g cap, v = .slice (some ⟨g, 0, none⟩) (L.length + 1) cap ∧ B ≤ g ∧ L.length + 1 ≤ cap ∧ Hid (Bs w (some ⟨g, 0, none⟩) L ∧ w.cell? ⟨g, L.length, none⟩ = some (.int .u8 99) ∧ g < w.heap.size) := by
  have hl : (L ++ [99]).length = L.length + 1 := by simp
  obtain ⟨A, cap, e, hB⟩ := bs_own h
  rcases h.2 with ⟨_, e2⟩ | ⟨g, c, cur, e1, e2, e3, e4, _⟩
  · omega
  · rw [e] at e1
    injection e1 with e5 e6 e7
    subst e5
    subst e7
    have hlt : g < w.heap.size := by
      rcases Nat.lt_or_ge g w.heap.size with hlt | hge
      · exact hlt
      · rw [Array.getElem?_eq_none hge] at e3; cases e3
    have hB2 := bs_take hB L.length
    rw [List.take_left] at hB2
    obtain ⟨b, off, e8, hc⟩ := hB (by omega)
    injection e8 with e8
    injection e8 with e9 e10
    subst e9
    subst e10
    have hcl := hc L.length (by omega)
    rw [Nat.zero_add] at hcl
    refine ⟨g, cap, by rw [e, hl], e2, by omega, hB2, ?_, hlt⟩
    rw [hcl, List.getD_eq_getElem?_getD, List.getElem?_append_right (Nat.le_refl _), Nat.sub_self]
    rfl

/-- A text made of bytes that lie somewhere, in every later world. -/
theorem str_fact {w5 : World} {A : Option Addr} {L : List UInt8} (cap : Nat) (hB : Bs w5 A L) : ∃ t : ByteArray, Hid (t = ⟨L.toArray⟩) ∧ ∀ w', Below w5.heap.size w5 w' → (convert 22 9 (.slice A L.length cap)).run Try.prog w' = .ok (.string t) w' :=
  ⟨_, Lib.hid rfl, fun w' h => run_str_of (P := Try.prog) (w := w') 22 9 5 cap Try.underlying22 Try.underlying5 Try.underlying9 (hB.below h)⟩

theorem put_add {L M : List UInt8} {tb tx : ByteArray} (hb : tb = ⟨L.toArray⟩) (hx : tx = ⟨(L ++ M).toArray⟩) : tb ++ (⟨M.toArray⟩ : ByteArray) = tx ∧ True := by
  subst hb
  subst hx
  refine ⟨?_, trivial⟩
  rw [ByteArray.mk_append_mk]
theorem put_small {v : Int} (h0 : -9223372036854775808 ≤ v) (h1 : v ≤ 9223372036854775807) : (⟨(putI v).toArray⟩ : ByteArray).size ≤ 1048576 := by
  have := putI_ten h0 h1
  show (putI v).toArray.size ≤ 1048576
  rw [List.size_toArray]; omega
theorem text_small (s : ByteArray) (h : s.size ≤ 1048576) : (⟨(putT s.data.toList).toArray⟩ : ByteArray).size ≤ 2097152 := by
  have hs : s.data.toList.length = s.size := by simp
  have := putI_ten (v := (s.data.toList.length : Int)) (by omega) (by omega)
  show (putT s.data.toList).toArray.size ≤ 2097152
  rw [List.size_toArray]
  unfold putT
  rw [List.length_append]; omega
theorem run_text_of {w : World} {A : Option Addr} {L : List UInt8} {t : ByteArray} (cap : Nat) (hB : Bs w A L) (h : (⟨L.toArray⟩ : ByteArray) = t) : (convert 22 9 (.slice A L.length cap)).run Try.prog w = .ok (.string t) w := by
  rw [← h]
  exact run_str_of (P := Try.prog) 22 9 5 cap Try.underlying22 Try.underlying5 Try.underlying9 hB

theorem run_load_at (w : World) (ad : Addr) (v : Value) (ev : Operand → Value) (x : Operand) (o : Oper) (ho : o.op = .load 5 x) (ha : ev x = .pointer (some ad)) (k : w.cell? ad = some v) : (execOp ev o).run Try.prog w = .ok (.value v) w := by
  unfold execOp
  rw [ho]
  simp only [ha]
  go_simp

set_option maxHeartbeats 4000000 in
set_option maxRecDepth 100000 in
theorem wireputs_walk (A : Option Addr) (L : List UInt8) (cap : Nat) (v : Int) (t : Bool) (s : ByteArray) (w : World) (hlc : L.length ≤ cap) (hcm : cap ≤ 1048576 - s.size) (hB : Bs w A L) (hcap : A = none → cap = 0) (hv0 : -9223372036854775808 ≤ v) (hv1 : v ≤ 9223372036854775807) (hs : s.size ≤ 1048576) :
    Calls Try.prog 3 #[.slice A L.length cap, .int .i64 v, .bool t, .string s] w fun e w' => e = .returned (.bool true) ∧ Below w.heap.size w w' := by
  have hsum : L.length + s.size ≤ 1048576 := by omega
  clear hcm hs
  obtain ⟨i0, hi, hz0, hz1, hz2⟩ := info_parts (show (Try.prog.info? 5).map (fun i => (i.zero, i.size, i.bytes)) = some (some (.int .u8 0), 1, 1) by kernel_rfl)
  have hA : (∃ ad, A = some ad ∧ Hid (∀ j u, (Lib.byteCells L)[j]? = some u → w.cell? (ad.add j) = some u)) ∨ (A = none ∧ L = [] ∧ cap = 0) := by
    cases A with
    | some ad => exact .inl ⟨ad, rfl, bs_cells hB⟩
    | none =>
      refine .inr ⟨rfl, ?_, hcap rfl⟩
      cases L with
      | nil => rfl
      | cons c L => obtain ⟨b, off, e, _⟩ := hB (by simp); cases e
  have HBS := Lib.hid hB
  have HOC := Lib.hid (bytes_one L)
  clear hB hcap
  rcases hA with ⟨ad, rfl, HC⟩ | ⟨rfl, rfl, rfl⟩
  · go_enter Try.func3, Try.ntmps3
    go_wp2_with (first | (at_builtin; (refine wpList_append_own _ rfl (.const (.slice none 0 0)) (.tmp 13) _ rfl w.heap.size 5 i0 _ 1 1 Try.underlying22 hi hz0 hz1 hz2 rfl (by omega) (.slice none 0 0) 0 [] rfl (World.ownsRow_nil _ _ _ _) ad L.length cap (Lib.byteCells L) rfl (by rw [Lib.byteCells_length]; omega) HC.out HOC.out (by unfold maxLen; omega) (by omega) (Nat.le_refl _) ?_; intro v1 w1 hown0 hg1 _; have HON := Lib.hid (onto_first hown0); have HB1 := Lib.hid (below_own (World.ownsRow_nil w w.heap.size 5 1) hg1 (Nat.le_refl _)); have hs1 := HB1.out.size; clear hown0 hg1)) | (at_builtin; (refine wpList_append_onto rfl (.tmp 14) (.tmp 15) rfl w.heap.size v1 L [99] rfl (HON.out.alloc _) ⟨w1.heap.size, 0, none⟩ 1 rfl (bs_new _ 99 _ _) (Nat.le_refl 1) (by simp <;> omega) (by simp <;> omega) ?_; intro v2 w2 ho2 hb2; obtain ⟨gc, cap2, rfl, hgc, hcap2, ho3⟩ := own_put ho2; clear ho2)))
    have HB2 := Lib.hid ((HB1.out.alloc hs1 (.cells #[.int .u8 99] 5)).trans hb2)
    clear hb2 hi hz0 hz1 hz2 HC HOC HON HB1 hs1
    have hBc := ho3.out.1
    have h99 := ho3.out.2.1
    have hgs := ho3.out.2.2
    have cI := putint_any _ _ cap2 v w2 (by first | omega | (simp <;> omega)) (by first | omega | (simp <;> omega)) hBc hv0 hv1
    have HBC := Lib.hid hBc
    have H99 := Lib.hid h99
    clear ho3 hBc h99
    refine cI.mono ?_
    rintro e w3 ⟨Ax, cx, rfl, hBx, _, _, hq3⟩
    have HB3 := Lib.hid (HB2.out.trans (hq3.mono HB2.out.size))
    have cB := putbool_any _ _ cap2 t w3 (by first | omega | (simp <;> omega)) (by first | omega | (simp <;> omega)) (HBC.out.below hq3)
    have HBX := Lib.hid hBx
    have HQ3 := Lib.hid hq3
    clear cI hBx hq3
    go_wp2_with fail
    refine cB.mono ?_
    rintro e w4 ⟨Ay, cy, rfl, hBy, _, _, hq4⟩
    have HB4 := Lib.hid (HB3.out.trans (hq4.mono HB3.out.size))
    have HQ4 := Lib.hid (HQ3.out.trans (hq4.mono HQ3.out.size))
    have cT := puttext_any _ _ cap2 s w4 (by first | omega | (simp <;> omega)) (by first | omega | (simp <;> omega)) (HBC.out.below HQ4.out)
    have HBX4 := Lib.hid (HBX.out.below hq4)
    have HBY := Lib.hid hBy
    clear cB hBy hq4 HBX HQ3 HB3
    go_wp2_with fail
    refine cT.mono ?_
    rintro e w5 ⟨Az, cz, rfl, hBz, _, _, hq5⟩
    have HB5 := Lib.hid (HB4.out.trans (hq5.mono HB4.out.size))
    have HQ5 := Lib.hid (HQ4.out.trans (hq5.mono HQ4.out.size))
    have HX := Lib.hid (HBX4.out.below hq5)
    have HY := Lib.hid (HBY.out.below hq5)
    have HZ := Lib.hid hBz
    have HBb := Lib.hid (HBS.out.below HB5.out)
    have HC99 := Lib.hid ((HQ5.out.cell hgs).trans H99.out)
    have hg5 := Nat.lt_of_lt_of_le hgs HQ5.out.size
    clear cT hBz hq5 HBX4 HBY HQ4 HB4 HBS H99 HBC
    go_wp2_with fail
    obtain ⟨tx, HTX, ex⟩ := str_fact cx HX.out
    obtain ⟨ty, HTY, ey⟩ := str_fact cy HY.out
    obtain ⟨tz, HTZ, ez⟩ := str_fact cz HZ.out
    obtain ⟨tb, HTB, eb⟩ := str_fact (cap) HBb.out
    obtain ⟨hxi, hxn⟩ := put_add (M := putI v) HTB.out HTX.out
    obtain ⟨hyi, hyn⟩ := put_add (M := putB t) HTB.out HTY.out
    obtain ⟨hzi, hzn⟩ := put_add (M := putT s.data.toList) HTB.out HTZ.out
    have hbn : tb.size ≤ 1048576 := by rw [HTB.out]; first | (simp [ByteArray.size]; omega) | simp [ByteArray.size]
    have hin := put_small hv0 hv1
    have htn := text_small s (by omega)
    have hbn2 : (⟨(putB t).toArray⟩ : ByteArray).size ≤ 1048576 := by show (1 : Nat) ≤ 1048576; omega
    have cRI := fun w => refint_any v w hv0 hv1
    have cRB := fun w => refbool_any t w
    have cRT := fun w => reftext_any s w (by have : s.data.toList.length = s.size := (by simp); omega)
    generalize hti : (⟨(putI v).toArray⟩ : ByteArray) = ti at *
    generalize htB : (⟨(putB t).toArray⟩ : ByteArray) = tB at *
    generalize htt : (⟨(putT s.data.toList).toArray⟩ : ByteArray) = tt at *
    have HTI := Lib.hid hti
    have HTB2 := Lib.hid htB
    have HTT := Lib.hid htt
    have HE99 := Lib.hid (fun w' (h : Below w5.heap.size w5 w') => (h.cell (p := ⟨gc, _, none⟩) hg5).trans HC99.out)
    clear hti htB htt HTX HTY HTZ HTB HX HY HZ HBb HC99 hxn hyn hzn
    have hxs : ¬ 9223372036854775807 < tb.size + ti.size := by omega
    have hys : ¬ 9223372036854775807 < tb.size + tB.size := by omega
    have hzs : ¬ 9223372036854775807 < tb.size + tt.size := by omega
    have hi1 : IntKind.i64.wrap ((L.length : Int) + 1) = (L.length : Int) + 1 := IntWalk.i64_in _ (by omega)
    have hi2 : (L.length : Int) + 1 ≤ (cap2 : Int) := by omega
    have hi3 : (0 : Int) ≤ (L.length : Int) + 1 := by omega
    have hi4 : ((L.length : Int) + 1).toNat = L.length + 1 := by omega
    have hi5 : (L.length : Int) < (L.length : Int) + 1 := by omega
    have hi6 : (0 : Int) ≤ (L.length : Int) := by omega
    simp only [List.length_append] at ex ey ez
    refine wp_region_held_drew (S := fun w' => Below w5.heap.size w5 w') (by kernel_rfl) ((Below.refl _ _).drew) (fun hHeld => ?_)
    refine held_take (i := 0) (v := ?_) rfl (by kernel_rfl) (by kernel_rfl) (by kernel_rfl) (fun _ _ _ h => h) (by rfl) hHeld ?_ ?_
    rotate_left
    · intro wz hSz; go_simp; try with_reducible rfl
    simp only [Act.put, List.setIfInBounds_toArray, List.set_cons_zero, List.set_cons_succ]
    refine held_take (i := 1) (v := ?_) rfl (by kernel_rfl) (by kernel_rfl) (by kernel_rfl) (fun _ _ _ h => h) (by rfl) hHeld ?_ ?_
    rotate_left
    · intro wz hSz; have k := ex wz hSz; go_simp; try with_reducible rfl
    simp only [Act.put, List.setIfInBounds_toArray, List.set_cons_zero, List.set_cons_succ]
    refine held_take (i := 2) (v := ?_) rfl (by kernel_rfl) (by kernel_rfl) (by kernel_rfl) (fun _ _ _ h => h) (by rfl) hHeld ?_ ?_
    rotate_left
    · intro wz hSz; go_simp; try with_reducible rfl
    simp only [Act.put, List.setIfInBounds_toArray, List.set_cons_zero, List.set_cons_succ]
    refine held_take (i := 3) (v := ?_) rfl (by kernel_rfl) (by kernel_rfl) (by kernel_rfl) (fun _ _ _ h => h) (by rfl) hHeld ?_ ?_
    rotate_left
    · intro wz hSz; have k := eb wz hSz; go_simp; try with_reducible rfl
    simp only [Act.put, List.setIfInBounds_toArray, List.set_cons_zero, List.set_cons_succ]
    refine held_take (i := 4) (v := ?_) rfl (by kernel_rfl) (by kernel_rfl) (by kernel_rfl) (fun _ _ _ h => h) (by rfl) hHeld ?_ ?_
    rotate_left
    · intro wz hSz; go_simp; try with_reducible rfl
    simp only [Act.put, List.setIfInBounds_toArray, List.set_cons_zero, List.set_cons_succ]
    refine held_call (i := 5) (by kernel_rfl) rfl (by rfl) (by go_simp; try with_reducible rfl) (cRI _) ?_
    rintro e w6 ⟨Ai, ci, rfl, hBi, _, _, hq6⟩
    have ki := run_text_of ci hBi HTI.out
    refine ⟨_, rfl, hHeld.trans (hq6.mono hHeld.size), ?_⟩
    replace hHeld := hHeld.trans (hq6.mono hHeld.size)
    clear hBi hq6
    simp only [Act.put, List.setIfInBounds_toArray, List.set_cons_zero, List.set_cons_succ]
    refine held_read (i := 6) (v := ?_) (by kernel_rfl) rfl (by rfl) hHeld ?_ ?_
    rotate_left
    · go_simp; try with_reducible rfl
    simp only [Act.put, List.setIfInBounds_toArray, List.set_cons_zero, List.set_cons_succ]
    refine held_take (i := 7) (v := ?_) rfl (by kernel_rfl) (by kernel_rfl) (by kernel_rfl) (fun _ _ _ h => h) (by rfl) hHeld ?_ ?_
    rotate_left
    · intro wz hSz; go_simp; try with_reducible rfl
    simp only [Act.put, List.setIfInBounds_toArray, List.set_cons_zero, List.set_cons_succ]
    refine held_take (i := 8) (v := ?_) rfl (by kernel_rfl) (by kernel_rfl) (by kernel_rfl) (fun _ _ _ h => h) (by rfl) hHeld ?_ ?_
    rotate_left
    · intro wz hSz; go_simp; try with_reducible rfl
    simp only [Act.put, List.setIfInBounds_toArray, List.set_cons_zero, List.set_cons_succ]
    refine held_take (i := 9) (v := ?_) rfl (by kernel_rfl) (by kernel_rfl) (by kernel_rfl) (fun _ _ _ h => h) (by rfl) hHeld ?_ ?_
    rotate_left
    · intro wz hSz; go_simp; try with_reducible rfl
    simp only [Act.put, List.setIfInBounds_toArray, List.set_cons_zero, List.set_cons_succ]
    refine held_take (i := 10) (v := ?_) rfl (by kernel_rfl) (by kernel_rfl) (by kernel_rfl) (fun _ _ _ h => h) (by rfl) hHeld ?_ ?_
    rotate_left
    · intro wz hSz; go_simp; try with_reducible rfl
    simp only [Act.put, List.setIfInBounds_toArray, List.set_cons_zero, List.set_cons_succ]
    refine held_take (i := 11) (v := ?_) rfl (by kernel_rfl) (by kernel_rfl) (by kernel_rfl) (fun _ _ _ h => h) (by rfl) hHeld ?_ ?_
    rotate_left
    · intro wz hSz; have k := ey wz hSz; go_simp; try with_reducible rfl
    simp only [Act.put, List.setIfInBounds_toArray, List.set_cons_zero, List.set_cons_succ]
    refine held_take (i := 12) (v := ?_) rfl (by kernel_rfl) (by kernel_rfl) (by kernel_rfl) (fun _ _ _ h => h) (by rfl) hHeld ?_ ?_
    rotate_left
    · intro wz hSz; go_simp; try with_reducible rfl
    simp only [Act.put, List.setIfInBounds_toArray, List.set_cons_zero, List.set_cons_succ]
    refine held_take (i := 13) (v := ?_) rfl (by kernel_rfl) (by kernel_rfl) (by kernel_rfl) (fun _ _ _ h => h) (by rfl) hHeld ?_ ?_
    rotate_left
    · intro wz hSz; have k := eb wz hSz; go_simp; try with_reducible rfl
    simp only [Act.put, List.setIfInBounds_toArray, List.set_cons_zero, List.set_cons_succ]
    refine held_take (i := 14) (v := ?_) rfl (by kernel_rfl) (by kernel_rfl) (by kernel_rfl) (fun _ _ _ h => h) (by rfl) hHeld ?_ ?_
    rotate_left
    · intro wz hSz; go_simp; try with_reducible rfl
    simp only [Act.put, List.setIfInBounds_toArray, List.set_cons_zero, List.set_cons_succ]
    clear ki
    refine held_call (i := 15) (by kernel_rfl) rfl (by rfl) (by go_simp; try with_reducible rfl) (cRB _) ?_
    rintro e w7 ⟨Ai, ci, rfl, hBi, _, _, hq6⟩
    have ki := run_text_of ci hBi HTB2.out
    refine ⟨_, rfl, hHeld.trans (hq6.mono hHeld.size), ?_⟩
    replace hHeld := hHeld.trans (hq6.mono hHeld.size)
    clear hBi hq6
    simp only [Act.put, List.setIfInBounds_toArray, List.set_cons_zero, List.set_cons_succ]
    refine held_read (i := 16) (v := ?_) (by kernel_rfl) rfl (by rfl) hHeld ?_ ?_
    rotate_left
    · go_simp; try with_reducible rfl
    simp only [Act.put, List.setIfInBounds_toArray, List.set_cons_zero, List.set_cons_succ]
    refine held_take (i := 17) (v := ?_) rfl (by kernel_rfl) (by kernel_rfl) (by kernel_rfl) (fun _ _ _ h => h) (by rfl) hHeld ?_ ?_
    rotate_left
    · intro wz hSz; go_simp; try with_reducible rfl
    simp only [Act.put, List.setIfInBounds_toArray, List.set_cons_zero, List.set_cons_succ]
    refine held_take (i := 18) (v := ?_) rfl (by kernel_rfl) (by kernel_rfl) (by kernel_rfl) (fun _ _ _ h => h) (by rfl) hHeld ?_ ?_
    rotate_left
    · intro wz hSz; go_simp; try with_reducible rfl
    simp only [Act.put, List.setIfInBounds_toArray, List.set_cons_zero, List.set_cons_succ]
    refine held_take (i := 19) (v := ?_) rfl (by kernel_rfl) (by kernel_rfl) (by kernel_rfl) (fun _ _ _ h => h) (by rfl) hHeld ?_ ?_
    rotate_left
    · intro wz hSz; go_simp; try with_reducible rfl
    simp only [Act.put, List.setIfInBounds_toArray, List.set_cons_zero, List.set_cons_succ]
    refine held_take (i := 20) (v := ?_) rfl (by kernel_rfl) (by kernel_rfl) (by kernel_rfl) (fun _ _ _ h => h) (by rfl) hHeld ?_ ?_
    rotate_left
    · intro wz hSz; go_simp; try with_reducible rfl
    simp only [Act.put, List.setIfInBounds_toArray, List.set_cons_zero, List.set_cons_succ]
    refine held_take (i := 21) (v := ?_) rfl (by kernel_rfl) (by kernel_rfl) (by kernel_rfl) (fun _ _ _ h => h) (by rfl) hHeld ?_ ?_
    rotate_left
    · intro wz hSz; go_simp; try with_reducible rfl
    simp only [Act.put, List.setIfInBounds_toArray, List.set_cons_zero, List.set_cons_succ]
    refine held_take (i := 22) (v := ?_) rfl (by kernel_rfl) (by kernel_rfl) (by kernel_rfl) (fun _ _ _ h => h) (by rfl) hHeld ?_ ?_
    rotate_left
    · intro wz hSz; have k := ez wz hSz; go_simp; try with_reducible rfl
    simp only [Act.put, List.setIfInBounds_toArray, List.set_cons_zero, List.set_cons_succ]
    refine held_take (i := 23) (v := ?_) rfl (by kernel_rfl) (by kernel_rfl) (by kernel_rfl) (fun _ _ _ h => h) (by rfl) hHeld ?_ ?_
    rotate_left
    · intro wz hSz; go_simp; try with_reducible rfl
    simp only [Act.put, List.setIfInBounds_toArray, List.set_cons_zero, List.set_cons_succ]
    refine held_take (i := 24) (v := ?_) rfl (by kernel_rfl) (by kernel_rfl) (by kernel_rfl) (fun _ _ _ h => h) (by rfl) hHeld ?_ ?_
    rotate_left
    · intro wz hSz; have k := eb wz hSz; go_simp; try with_reducible rfl
    simp only [Act.put, List.setIfInBounds_toArray, List.set_cons_zero, List.set_cons_succ]
    refine held_take (i := 25) (v := ?_) rfl (by kernel_rfl) (by kernel_rfl) (by kernel_rfl) (fun _ _ _ h => h) (by rfl) hHeld ?_ ?_
    rotate_left
    · intro wz hSz; go_simp; try with_reducible rfl
    simp only [Act.put, List.setIfInBounds_toArray, List.set_cons_zero, List.set_cons_succ]
    clear ki
    refine held_call (i := 26) (by kernel_rfl) rfl (by rfl) (by go_simp; try with_reducible rfl) (cRT _) ?_
    rintro e w8 ⟨Ai, ci, rfl, hBi, _, _, hq6⟩
    have ki := run_text_of ci hBi HTT.out
    refine ⟨_, rfl, hHeld.trans (hq6.mono hHeld.size), ?_⟩
    replace hHeld := hHeld.trans (hq6.mono hHeld.size)
    clear hBi hq6
    simp only [Act.put, List.setIfInBounds_toArray, List.set_cons_zero, List.set_cons_succ]
    refine held_read (i := 27) (v := ?_) (by kernel_rfl) rfl (by rfl) hHeld ?_ ?_
    rotate_left
    · go_simp; try with_reducible rfl
    simp only [Act.put, List.setIfInBounds_toArray, List.set_cons_zero, List.set_cons_succ]
    refine held_take (i := 28) (v := ?_) rfl (by kernel_rfl) (by kernel_rfl) (by kernel_rfl) (fun _ _ _ h => h) (by rfl) hHeld ?_ ?_
    rotate_left
    · intro wz hSz; go_simp; try with_reducible rfl
    simp only [Act.put, List.setIfInBounds_toArray, List.set_cons_zero, List.set_cons_succ]
    refine held_take (i := 29) (v := ?_) rfl (by kernel_rfl) (by kernel_rfl) (by kernel_rfl) (fun _ _ _ h => h) (by rfl) hHeld ?_ ?_
    rotate_left
    · intro wz hSz; go_simp; try with_reducible rfl
    simp only [Act.put, List.setIfInBounds_toArray, List.set_cons_zero, List.set_cons_succ]
    refine held_take (i := 30) (v := ?_) rfl (by kernel_rfl) (by kernel_rfl) (by kernel_rfl) (fun _ _ _ h => h) (by rfl) hHeld ?_ ?_
    rotate_left
    · intro wz hSz; go_simp; try with_reducible rfl
    simp only [Act.put, List.setIfInBounds_toArray, List.set_cons_zero, List.set_cons_succ]
    refine held_take (i := 31) (v := ?_) rfl (by kernel_rfl) (by kernel_rfl) (by kernel_rfl) (fun _ _ _ h => h) (by rfl) hHeld ?_ ?_
    rotate_left
    · intro wz hSz; go_simp; try with_reducible rfl
    simp only [Act.put, List.setIfInBounds_toArray, List.set_cons_zero, List.set_cons_succ]
    refine held_take (i := 32) (v := ?_) rfl (by kernel_rfl) (by kernel_rfl) (by kernel_rfl) (fun _ _ _ h => h) (by rfl) hHeld ?_ ?_
    rotate_left
    · intro wz hSz; go_simp; try with_reducible rfl
    simp only [Act.put, List.setIfInBounds_toArray, List.set_cons_zero, List.set_cons_succ]
    refine held_take (i := 33) (v := ?_) rfl (by kernel_rfl) (by kernel_rfl) (by kernel_rfl) (fun _ _ _ h => h) (by rfl) hHeld ?_ ?_
    rotate_left
    · intro wz hSz; go_simp; try with_reducible rfl
    simp only [Act.put, List.setIfInBounds_toArray, List.set_cons_zero, List.set_cons_succ]
    refine held_take (i := 34) (v := ?_) rfl (by kernel_rfl) (by kernel_rfl) (by kernel_rfl) (fun _ _ _ h => h) (by rfl) hHeld ?_ ?_
    rotate_left
    · intro wz hSz; go_simp; try with_reducible rfl
    simp only [Act.put, List.setIfInBounds_toArray, List.set_cons_zero, List.set_cons_succ]
    refine held_take (i := 35) (v := ?_) rfl (by kernel_rfl) (by kernel_rfl) (by kernel_rfl) (fun _ _ _ h => h) (by rfl) hHeld ?_ ?_
    rotate_left
    · intro wz hSz; go_simp; try with_reducible rfl
    simp only [Act.put, List.setIfInBounds_toArray, List.set_cons_zero, List.set_cons_succ]
    refine held_take (i := 36) (v := ?_) rfl (by kernel_rfl) (by kernel_rfl) (by kernel_rfl) (fun _ _ _ h => h) (by rfl) hHeld ?_ ?_
    rotate_left
    · intro wz hSz; go_simp; try with_reducible rfl
    simp only [Act.put, List.setIfInBounds_toArray, List.set_cons_zero, List.set_cons_succ]
    refine held_take (i := 37) (v := ?_) rfl (by kernel_rfl) (by kernel_rfl) (by kernel_rfl) (fun _ _ _ h => h) (by rfl) hHeld ?_ ?_
    rotate_left
    · intro wz hSz; go_simp; try with_reducible rfl
    simp only [Act.put, List.setIfInBounds_toArray, List.set_cons_zero, List.set_cons_succ]
    refine held_take (i := 38) (v := ?_) rfl (by kernel_rfl) (by kernel_rfl) (by kernel_rfl) (fun _ _ _ h => h) (by rfl) hHeld ?_ ?_
    rotate_left
    · intro wz hSz; go_simp; try with_reducible rfl
    simp only [Act.put, List.setIfInBounds_toArray, List.set_cons_zero, List.set_cons_succ]
    refine held_take (i := 39) (v := ?_) rfl (by kernel_rfl) (by kernel_rfl) (by kernel_rfl) (fun _ _ _ h => h) (by rfl) hHeld ?_ ?_
    rotate_left
    · intro wz hSz; go_simp; try with_reducible rfl
    simp only [Act.put, List.setIfInBounds_toArray, List.set_cons_zero, List.set_cons_succ]
    refine held_take (i := 40) (v := .int .u8 99) rfl (by kernel_rfl) (by kernel_rfl) (by kernel_rfl) (fun _ _ _ h => h) (by rfl) hHeld ?_ ?_
    · intro wz hSz; exact run_load_at wz _ _ _ _ _ rfl rfl (HE99.out wz hSz)
    simp only [Act.put, List.setIfInBounds_toArray, List.set_cons_zero, List.set_cons_succ]
    refine held_take (i := 41) (v := ?_) rfl (by kernel_rfl) (by kernel_rfl) (by kernel_rfl) (fun _ _ _ h => h) (by rfl) hHeld ?_ ?_
    rotate_left
    · intro wz hSz; go_simp; try with_reducible rfl
    simp only [Act.put, List.setIfInBounds_toArray, List.set_cons_zero, List.set_cons_succ]
    refine held_take (i := 42) (v := ?_) rfl (by kernel_rfl) (by kernel_rfl) (by kernel_rfl) (fun _ _ _ h => h) (by rfl) hHeld ?_ ?_
    rotate_left
    · intro wz hSz; go_simp; try with_reducible rfl
    simp only [Act.put, List.setIfInBounds_toArray, List.set_cons_zero, List.set_cons_succ]
    refine held_take (i := 43) (v := ?_) rfl (by kernel_rfl) (by kernel_rfl) (by kernel_rfl) (fun _ _ _ h => h) (by rfl) hHeld ?_ ?_
    rotate_left
    · intro wz hSz; go_simp; try with_reducible rfl
    simp only [Act.put, List.setIfInBounds_toArray, List.set_cons_zero, List.set_cons_succ]
    refine held_call (i := 44) (by kernel_rfl) rfl (by rfl) (by go_simp; try with_reducible rfl) (awake_any _) ?_
    rintro e w9 ⟨rfl, hq9⟩
    refine ⟨_, rfl, hHeld.trans (hq9.mono hHeld.size), ?_⟩
    replace hHeld := hHeld.trans (hq9.mono hHeld.size)
    clear hq9
    simp only [Act.put, List.setIfInBounds_toArray, List.set_cons_zero, List.set_cons_succ]
    refine held_take (i := 45) (v := ?_) rfl (by kernel_rfl) (by kernel_rfl) (by kernel_rfl) (fun _ _ _ h => h) (by rfl) hHeld ?_ ?_
    rotate_left
    · intro wz hSz; go_simp; try with_reducible rfl
    simp only [Act.put, List.setIfInBounds_toArray, List.set_cons_zero, List.set_cons_succ]
    refine held_take (i := 46) (v := ?_) rfl (by kernel_rfl) (by kernel_rfl) (by kernel_rfl) (fun _ _ _ h => h) (by rfl) hHeld ?_ ?_
    rotate_left
    · intro wz hSz; go_simp; try with_reducible rfl
    simp only [Act.put, List.setIfInBounds_toArray, List.set_cons_zero, List.set_cons_succ]
    refine wpAnyH_done (by kernel_rfl) ?_ _
    go_wp2
    go_ret
    exact ⟨rfl, HB5.out.trans (hHeld.mono HB5.out.size)⟩
  · go_enter Try.func3, Try.ntmps3
    go_wp2_with (first | (at_builtin; refine wpList_append_own_none rfl (.const (.slice none 0 0)) (.tmp 13) _ rfl w.heap.size 5 i0 1 Try.underlying22 hi (.slice none 0 0) 0 [] rfl (World.ownsRow_nil _ _ _ _) rfl ?_) | (at_builtin; (refine wpList_append_onto rfl (.tmp 14) (.tmp 15) rfl w.heap.size (.slice none 0 0) [] [99] rfl ((Onto.nil w.heap.size w).alloc _) ⟨w.heap.size, 0, none⟩ 1 rfl (bs_new _ 99 _ _) (Nat.le_refl 1) (by simp <;> omega) (by simp <;> omega) ?_; intro v2 w2 ho2 hb2; obtain ⟨gc, cap2, rfl, hgc, hcap2, ho3⟩ := own_put ho2; clear ho2)))
    have HB2 := Lib.hid (((Below.refl w.heap.size w).alloc (Nat.le_refl _) (.cells #[.int .u8 99] 5)).trans hb2)
    clear hb2 hi hz0 hz1 hz2 HOC
    have hBc := ho3.out.1
    have h99 := ho3.out.2.1
    have hgs := ho3.out.2.2
    have cI := putint_any _ _ cap2 v w2 (by first | omega | (simp <;> omega)) (by first | omega | (simp <;> omega)) hBc hv0 hv1
    have HBC := Lib.hid hBc
    have H99 := Lib.hid h99
    clear ho3 hBc h99
    refine cI.mono ?_
    rintro e w3 ⟨Ax, cx, rfl, hBx, _, _, hq3⟩
    have HB3 := Lib.hid (HB2.out.trans (hq3.mono HB2.out.size))
    have cB := putbool_any _ _ cap2 t w3 (by first | omega | (simp <;> omega)) (by first | omega | (simp <;> omega)) (HBC.out.below hq3)
    have HBX := Lib.hid hBx
    have HQ3 := Lib.hid hq3
    clear cI hBx hq3
    go_wp2_with fail
    refine cB.mono ?_
    rintro e w4 ⟨Ay, cy, rfl, hBy, _, _, hq4⟩
    have HB4 := Lib.hid (HB3.out.trans (hq4.mono HB3.out.size))
    have HQ4 := Lib.hid (HQ3.out.trans (hq4.mono HQ3.out.size))
    have cT := puttext_any _ _ cap2 s w4 (by first | omega | (simp <;> omega)) (by first | omega | (simp <;> omega)) (HBC.out.below HQ4.out)
    have HBX4 := Lib.hid (HBX.out.below hq4)
    have HBY := Lib.hid hBy
    clear cB hBy hq4 HBX HQ3 HB3
    go_wp2_with fail
    refine cT.mono ?_
    rintro e w5 ⟨Az, cz, rfl, hBz, _, _, hq5⟩
    have HB5 := Lib.hid (HB4.out.trans (hq5.mono HB4.out.size))
    have HQ5 := Lib.hid (HQ4.out.trans (hq5.mono HQ4.out.size))
    have HX := Lib.hid (HBX4.out.below hq5)
    have HY := Lib.hid (HBY.out.below hq5)
    have HZ := Lib.hid hBz
    have HBb := Lib.hid (HBS.out.below HB5.out)
    have HC99 := Lib.hid ((HQ5.out.cell hgs).trans H99.out)
    have hg5 := Nat.lt_of_lt_of_le hgs HQ5.out.size
    clear cT hBz hq5 HBX4 HBY HQ4 HB4 HBS H99 HBC
    go_wp2_with fail
    obtain ⟨tx, HTX, ex⟩ := str_fact cx HX.out
    obtain ⟨ty, HTY, ey⟩ := str_fact cy HY.out
    obtain ⟨tz, HTZ, ez⟩ := str_fact cz HZ.out
    obtain ⟨tb, HTB, eb⟩ := str_fact (0) HBb.out
    obtain ⟨hxi, hxn⟩ := put_add (M := putI v) HTB.out HTX.out
    obtain ⟨hyi, hyn⟩ := put_add (M := putB t) HTB.out HTY.out
    obtain ⟨hzi, hzn⟩ := put_add (M := putT s.data.toList) HTB.out HTZ.out
    have hbn : tb.size ≤ 1048576 := by rw [HTB.out]; first | (simp [ByteArray.size]; omega) | simp [ByteArray.size]
    have hin := put_small hv0 hv1
    have htn := text_small s (by omega)
    have hbn2 : (⟨(putB t).toArray⟩ : ByteArray).size ≤ 1048576 := by show (1 : Nat) ≤ 1048576; omega
    have cRI := fun w => refint_any v w hv0 hv1
    have cRB := fun w => refbool_any t w
    have cRT := fun w => reftext_any s w (by have : s.data.toList.length = s.size := (by simp); omega)
    generalize hti : (⟨(putI v).toArray⟩ : ByteArray) = ti at *
    generalize htB : (⟨(putB t).toArray⟩ : ByteArray) = tB at *
    generalize htt : (⟨(putT s.data.toList).toArray⟩ : ByteArray) = tt at *
    have HTI := Lib.hid hti
    have HTB2 := Lib.hid htB
    have HTT := Lib.hid htt
    have HE99 := Lib.hid (fun w' (h : Below w5.heap.size w5 w') => (h.cell (p := ⟨gc, _, none⟩) hg5).trans HC99.out)
    clear hti htB htt HTX HTY HTZ HTB HX HY HZ HBb HC99 hxn hyn hzn
    have hxs : ¬ 9223372036854775807 < tb.size + ti.size := by omega
    have hys : ¬ 9223372036854775807 < tb.size + tB.size := by omega
    have hzs : ¬ 9223372036854775807 < tb.size + tt.size := by omega
    have hi1 : IntKind.i64.wrap 1 = 1 := by decide
    have hi2 : (1 : Int) ≤ (cap2 : Int) := by simp at hcap2; omega
    simp only [List.length_nil, List.nil_append] at ex ey ez eb
    refine wp_region_held_drew (S := fun w' => Below w5.heap.size w5 w') (by kernel_rfl) ((Below.refl _ _).drew) (fun hHeld => ?_)
    refine held_take (i := 0) (v := ?_) rfl (by kernel_rfl) (by kernel_rfl) (by kernel_rfl) (fun _ _ _ h => h) (by rfl) hHeld ?_ ?_
    rotate_left
    · intro wz hSz; go_simp; try with_reducible rfl
    simp only [Act.put, List.setIfInBounds_toArray, List.set_cons_zero, List.set_cons_succ]
    refine held_take (i := 1) (v := ?_) rfl (by kernel_rfl) (by kernel_rfl) (by kernel_rfl) (fun _ _ _ h => h) (by rfl) hHeld ?_ ?_
    rotate_left
    · intro wz hSz; have k := ex wz hSz; go_simp; try with_reducible rfl
    simp only [Act.put, List.setIfInBounds_toArray, List.set_cons_zero, List.set_cons_succ]
    refine held_take (i := 2) (v := ?_) rfl (by kernel_rfl) (by kernel_rfl) (by kernel_rfl) (fun _ _ _ h => h) (by rfl) hHeld ?_ ?_
    rotate_left
    · intro wz hSz; go_simp; try with_reducible rfl
    simp only [Act.put, List.setIfInBounds_toArray, List.set_cons_zero, List.set_cons_succ]
    refine held_take (i := 3) (v := ?_) rfl (by kernel_rfl) (by kernel_rfl) (by kernel_rfl) (fun _ _ _ h => h) (by rfl) hHeld ?_ ?_
    rotate_left
    · intro wz hSz; have k := eb wz hSz; go_simp; try with_reducible rfl
    simp only [Act.put, List.setIfInBounds_toArray, List.set_cons_zero, List.set_cons_succ]
    refine held_take (i := 4) (v := ?_) rfl (by kernel_rfl) (by kernel_rfl) (by kernel_rfl) (fun _ _ _ h => h) (by rfl) hHeld ?_ ?_
    rotate_left
    · intro wz hSz; go_simp; try with_reducible rfl
    simp only [Act.put, List.setIfInBounds_toArray, List.set_cons_zero, List.set_cons_succ]
    refine held_call (i := 5) (by kernel_rfl) rfl (by rfl) (by go_simp; try with_reducible rfl) (cRI _) ?_
    rintro e w6 ⟨Ai, ci, rfl, hBi, _, _, hq6⟩
    have ki := run_text_of ci hBi HTI.out
    refine ⟨_, rfl, hHeld.trans (hq6.mono hHeld.size), ?_⟩
    replace hHeld := hHeld.trans (hq6.mono hHeld.size)
    clear hBi hq6
    simp only [Act.put, List.setIfInBounds_toArray, List.set_cons_zero, List.set_cons_succ]
    refine held_read (i := 6) (v := ?_) (by kernel_rfl) rfl (by rfl) hHeld ?_ ?_
    rotate_left
    · go_simp; try with_reducible rfl
    simp only [Act.put, List.setIfInBounds_toArray, List.set_cons_zero, List.set_cons_succ]
    refine held_take (i := 7) (v := ?_) rfl (by kernel_rfl) (by kernel_rfl) (by kernel_rfl) (fun _ _ _ h => h) (by rfl) hHeld ?_ ?_
    rotate_left
    · intro wz hSz; go_simp; try with_reducible rfl
    simp only [Act.put, List.setIfInBounds_toArray, List.set_cons_zero, List.set_cons_succ]
    refine held_take (i := 8) (v := ?_) rfl (by kernel_rfl) (by kernel_rfl) (by kernel_rfl) (fun _ _ _ h => h) (by rfl) hHeld ?_ ?_
    rotate_left
    · intro wz hSz; go_simp; try with_reducible rfl
    simp only [Act.put, List.setIfInBounds_toArray, List.set_cons_zero, List.set_cons_succ]
    refine held_take (i := 9) (v := ?_) rfl (by kernel_rfl) (by kernel_rfl) (by kernel_rfl) (fun _ _ _ h => h) (by rfl) hHeld ?_ ?_
    rotate_left
    · intro wz hSz; go_simp; try with_reducible rfl
    simp only [Act.put, List.setIfInBounds_toArray, List.set_cons_zero, List.set_cons_succ]
    refine held_take (i := 10) (v := ?_) rfl (by kernel_rfl) (by kernel_rfl) (by kernel_rfl) (fun _ _ _ h => h) (by rfl) hHeld ?_ ?_
    rotate_left
    · intro wz hSz; go_simp; try with_reducible rfl
    simp only [Act.put, List.setIfInBounds_toArray, List.set_cons_zero, List.set_cons_succ]
    refine held_take (i := 11) (v := ?_) rfl (by kernel_rfl) (by kernel_rfl) (by kernel_rfl) (fun _ _ _ h => h) (by rfl) hHeld ?_ ?_
    rotate_left
    · intro wz hSz; have k := ey wz hSz; go_simp; try with_reducible rfl
    simp only [Act.put, List.setIfInBounds_toArray, List.set_cons_zero, List.set_cons_succ]
    refine held_take (i := 12) (v := ?_) rfl (by kernel_rfl) (by kernel_rfl) (by kernel_rfl) (fun _ _ _ h => h) (by rfl) hHeld ?_ ?_
    rotate_left
    · intro wz hSz; go_simp; try with_reducible rfl
    simp only [Act.put, List.setIfInBounds_toArray, List.set_cons_zero, List.set_cons_succ]
    refine held_take (i := 13) (v := ?_) rfl (by kernel_rfl) (by kernel_rfl) (by kernel_rfl) (fun _ _ _ h => h) (by rfl) hHeld ?_ ?_
    rotate_left
    · intro wz hSz; have k := eb wz hSz; go_simp; try with_reducible rfl
    simp only [Act.put, List.setIfInBounds_toArray, List.set_cons_zero, List.set_cons_succ]
    refine held_take (i := 14) (v := ?_) rfl (by kernel_rfl) (by kernel_rfl) (by kernel_rfl) (fun _ _ _ h => h) (by rfl) hHeld ?_ ?_
    rotate_left
    · intro wz hSz; go_simp; try with_reducible rfl
    simp only [Act.put, List.setIfInBounds_toArray, List.set_cons_zero, List.set_cons_succ]
    clear ki
    refine held_call (i := 15) (by kernel_rfl) rfl (by rfl) (by go_simp; try with_reducible rfl) (cRB _) ?_
    rintro e w7 ⟨Ai, ci, rfl, hBi, _, _, hq6⟩
    have ki := run_text_of ci hBi HTB2.out
    refine ⟨_, rfl, hHeld.trans (hq6.mono hHeld.size), ?_⟩
    replace hHeld := hHeld.trans (hq6.mono hHeld.size)
    clear hBi hq6
    simp only [Act.put, List.setIfInBounds_toArray, List.set_cons_zero, List.set_cons_succ]
    refine held_read (i := 16) (v := ?_) (by kernel_rfl) rfl (by rfl) hHeld ?_ ?_
    rotate_left
    · go_simp; try with_reducible rfl
    simp only [Act.put, List.setIfInBounds_toArray, List.set_cons_zero, List.set_cons_succ]
    refine held_take (i := 17) (v := ?_) rfl (by kernel_rfl) (by kernel_rfl) (by kernel_rfl) (fun _ _ _ h => h) (by rfl) hHeld ?_ ?_
    rotate_left
    · intro wz hSz; go_simp; try with_reducible rfl
    simp only [Act.put, List.setIfInBounds_toArray, List.set_cons_zero, List.set_cons_succ]
    refine held_take (i := 18) (v := ?_) rfl (by kernel_rfl) (by kernel_rfl) (by kernel_rfl) (fun _ _ _ h => h) (by rfl) hHeld ?_ ?_
    rotate_left
    · intro wz hSz; go_simp; try with_reducible rfl
    simp only [Act.put, List.setIfInBounds_toArray, List.set_cons_zero, List.set_cons_succ]
    refine held_take (i := 19) (v := ?_) rfl (by kernel_rfl) (by kernel_rfl) (by kernel_rfl) (fun _ _ _ h => h) (by rfl) hHeld ?_ ?_
    rotate_left
    · intro wz hSz; go_simp; try with_reducible rfl
    simp only [Act.put, List.setIfInBounds_toArray, List.set_cons_zero, List.set_cons_succ]
    refine held_take (i := 20) (v := ?_) rfl (by kernel_rfl) (by kernel_rfl) (by kernel_rfl) (fun _ _ _ h => h) (by rfl) hHeld ?_ ?_
    rotate_left
    · intro wz hSz; go_simp; try with_reducible rfl
    simp only [Act.put, List.setIfInBounds_toArray, List.set_cons_zero, List.set_cons_succ]
    refine held_take (i := 21) (v := ?_) rfl (by kernel_rfl) (by kernel_rfl) (by kernel_rfl) (fun _ _ _ h => h) (by rfl) hHeld ?_ ?_
    rotate_left
    · intro wz hSz; go_simp; try with_reducible rfl
    simp only [Act.put, List.setIfInBounds_toArray, List.set_cons_zero, List.set_cons_succ]
    refine held_take (i := 22) (v := ?_) rfl (by kernel_rfl) (by kernel_rfl) (by kernel_rfl) (fun _ _ _ h => h) (by rfl) hHeld ?_ ?_
    rotate_left
    · intro wz hSz; have k := ez wz hSz; go_simp; try with_reducible rfl
    simp only [Act.put, List.setIfInBounds_toArray, List.set_cons_zero, List.set_cons_succ]
    refine held_take (i := 23) (v := ?_) rfl (by kernel_rfl) (by kernel_rfl) (by kernel_rfl) (fun _ _ _ h => h) (by rfl) hHeld ?_ ?_
    rotate_left
    · intro wz hSz; go_simp; try with_reducible rfl
    simp only [Act.put, List.setIfInBounds_toArray, List.set_cons_zero, List.set_cons_succ]
    refine held_take (i := 24) (v := ?_) rfl (by kernel_rfl) (by kernel_rfl) (by kernel_rfl) (fun _ _ _ h => h) (by rfl) hHeld ?_ ?_
    rotate_left
    · intro wz hSz; have k := eb wz hSz; go_simp; try with_reducible rfl
    simp only [Act.put, List.setIfInBounds_toArray, List.set_cons_zero, List.set_cons_succ]
    refine held_take (i := 25) (v := ?_) rfl (by kernel_rfl) (by kernel_rfl) (by kernel_rfl) (fun _ _ _ h => h) (by rfl) hHeld ?_ ?_
    rotate_left
    · intro wz hSz; go_simp; try with_reducible rfl
    simp only [Act.put, List.setIfInBounds_toArray, List.set_cons_zero, List.set_cons_succ]
    clear ki
    refine held_call (i := 26) (by kernel_rfl) rfl (by rfl) (by go_simp; try with_reducible rfl) (cRT _) ?_
    rintro e w8 ⟨Ai, ci, rfl, hBi, _, _, hq6⟩
    have ki := run_text_of ci hBi HTT.out
    refine ⟨_, rfl, hHeld.trans (hq6.mono hHeld.size), ?_⟩
    replace hHeld := hHeld.trans (hq6.mono hHeld.size)
    clear hBi hq6
    simp only [Act.put, List.setIfInBounds_toArray, List.set_cons_zero, List.set_cons_succ]
    refine held_read (i := 27) (v := ?_) (by kernel_rfl) rfl (by rfl) hHeld ?_ ?_
    rotate_left
    · go_simp; try with_reducible rfl
    simp only [Act.put, List.setIfInBounds_toArray, List.set_cons_zero, List.set_cons_succ]
    refine held_take (i := 28) (v := ?_) rfl (by kernel_rfl) (by kernel_rfl) (by kernel_rfl) (fun _ _ _ h => h) (by rfl) hHeld ?_ ?_
    rotate_left
    · intro wz hSz; go_simp; try with_reducible rfl
    simp only [Act.put, List.setIfInBounds_toArray, List.set_cons_zero, List.set_cons_succ]
    refine held_take (i := 29) (v := ?_) rfl (by kernel_rfl) (by kernel_rfl) (by kernel_rfl) (fun _ _ _ h => h) (by rfl) hHeld ?_ ?_
    rotate_left
    · intro wz hSz; go_simp; try with_reducible rfl
    simp only [Act.put, List.setIfInBounds_toArray, List.set_cons_zero, List.set_cons_succ]
    refine held_take (i := 30) (v := ?_) rfl (by kernel_rfl) (by kernel_rfl) (by kernel_rfl) (fun _ _ _ h => h) (by rfl) hHeld ?_ ?_
    rotate_left
    · intro wz hSz; go_simp; try with_reducible rfl
    simp only [Act.put, List.setIfInBounds_toArray, List.set_cons_zero, List.set_cons_succ]
    refine held_take (i := 31) (v := ?_) rfl (by kernel_rfl) (by kernel_rfl) (by kernel_rfl) (fun _ _ _ h => h) (by rfl) hHeld ?_ ?_
    rotate_left
    · intro wz hSz; go_simp; try with_reducible rfl
    simp only [Act.put, List.setIfInBounds_toArray, List.set_cons_zero, List.set_cons_succ]
    refine held_take (i := 32) (v := ?_) rfl (by kernel_rfl) (by kernel_rfl) (by kernel_rfl) (fun _ _ _ h => h) (by rfl) hHeld ?_ ?_
    rotate_left
    · intro wz hSz; go_simp; try with_reducible rfl
    simp only [Act.put, List.setIfInBounds_toArray, List.set_cons_zero, List.set_cons_succ]
    refine held_take (i := 33) (v := ?_) rfl (by kernel_rfl) (by kernel_rfl) (by kernel_rfl) (fun _ _ _ h => h) (by rfl) hHeld ?_ ?_
    rotate_left
    · intro wz hSz; go_simp; try with_reducible rfl
    simp only [Act.put, List.setIfInBounds_toArray, List.set_cons_zero, List.set_cons_succ]
    refine held_take (i := 34) (v := ?_) rfl (by kernel_rfl) (by kernel_rfl) (by kernel_rfl) (fun _ _ _ h => h) (by rfl) hHeld ?_ ?_
    rotate_left
    · intro wz hSz; go_simp; try with_reducible rfl
    simp only [Act.put, List.setIfInBounds_toArray, List.set_cons_zero, List.set_cons_succ]
    refine held_take (i := 35) (v := ?_) rfl (by kernel_rfl) (by kernel_rfl) (by kernel_rfl) (fun _ _ _ h => h) (by rfl) hHeld ?_ ?_
    rotate_left
    · intro wz hSz; go_simp; try with_reducible rfl
    simp only [Act.put, List.setIfInBounds_toArray, List.set_cons_zero, List.set_cons_succ]
    refine held_take (i := 36) (v := ?_) rfl (by kernel_rfl) (by kernel_rfl) (by kernel_rfl) (fun _ _ _ h => h) (by rfl) hHeld ?_ ?_
    rotate_left
    · intro wz hSz; go_simp; try with_reducible rfl
    simp only [Act.put, List.setIfInBounds_toArray, List.set_cons_zero, List.set_cons_succ]
    refine held_take (i := 37) (v := ?_) rfl (by kernel_rfl) (by kernel_rfl) (by kernel_rfl) (fun _ _ _ h => h) (by rfl) hHeld ?_ ?_
    rotate_left
    · intro wz hSz; go_simp; try with_reducible rfl
    simp only [Act.put, List.setIfInBounds_toArray, List.set_cons_zero, List.set_cons_succ]
    refine held_take (i := 38) (v := ?_) rfl (by kernel_rfl) (by kernel_rfl) (by kernel_rfl) (fun _ _ _ h => h) (by rfl) hHeld ?_ ?_
    rotate_left
    · intro wz hSz; go_simp; try with_reducible rfl
    simp only [Act.put, List.setIfInBounds_toArray, List.set_cons_zero, List.set_cons_succ]
    refine held_take (i := 39) (v := ?_) rfl (by kernel_rfl) (by kernel_rfl) (by kernel_rfl) (fun _ _ _ h => h) (by rfl) hHeld ?_ ?_
    rotate_left
    · intro wz hSz; go_simp; try with_reducible rfl
    simp only [Act.put, List.setIfInBounds_toArray, List.set_cons_zero, List.set_cons_succ]
    refine held_take (i := 40) (v := .int .u8 99) rfl (by kernel_rfl) (by kernel_rfl) (by kernel_rfl) (fun _ _ _ h => h) (by rfl) hHeld ?_ ?_
    · intro wz hSz; exact run_load_at wz _ _ _ _ _ rfl rfl (HE99.out wz hSz)
    simp only [Act.put, List.setIfInBounds_toArray, List.set_cons_zero, List.set_cons_succ]
    refine held_take (i := 41) (v := ?_) rfl (by kernel_rfl) (by kernel_rfl) (by kernel_rfl) (fun _ _ _ h => h) (by rfl) hHeld ?_ ?_
    rotate_left
    · intro wz hSz; go_simp; try with_reducible rfl
    simp only [Act.put, List.setIfInBounds_toArray, List.set_cons_zero, List.set_cons_succ]
    refine held_take (i := 42) (v := ?_) rfl (by kernel_rfl) (by kernel_rfl) (by kernel_rfl) (fun _ _ _ h => h) (by rfl) hHeld ?_ ?_
    rotate_left
    · intro wz hSz; go_simp; try with_reducible rfl
    simp only [Act.put, List.setIfInBounds_toArray, List.set_cons_zero, List.set_cons_succ]
    refine held_take (i := 43) (v := ?_) rfl (by kernel_rfl) (by kernel_rfl) (by kernel_rfl) (fun _ _ _ h => h) (by rfl) hHeld ?_ ?_
    rotate_left
    · intro wz hSz; go_simp; try with_reducible rfl
    simp only [Act.put, List.setIfInBounds_toArray, List.set_cons_zero, List.set_cons_succ]
    refine held_call (i := 44) (by kernel_rfl) rfl (by rfl) (by go_simp; try with_reducible rfl) (awake_any _) ?_
    rintro e w9 ⟨rfl, hq9⟩
    refine ⟨_, rfl, hHeld.trans (hq9.mono hHeld.size), ?_⟩
    replace hHeld := hHeld.trans (hq9.mono hHeld.size)
    clear hq9
    simp only [Act.put, List.setIfInBounds_toArray, List.set_cons_zero, List.set_cons_succ]
    refine held_take (i := 45) (v := ?_) rfl (by kernel_rfl) (by kernel_rfl) (by kernel_rfl) (fun _ _ _ h => h) (by rfl) hHeld ?_ ?_
    rotate_left
    · intro wz hSz; go_simp; try with_reducible rfl
    simp only [Act.put, List.setIfInBounds_toArray, List.set_cons_zero, List.set_cons_succ]
    refine held_take (i := 46) (v := ?_) rfl (by kernel_rfl) (by kernel_rfl) (by kernel_rfl) (fun _ _ _ h => h) (by rfl) hHeld ?_ ?_
    rotate_left
    · intro wz hSz; go_simp; try with_reducible rfl
    simp only [Act.put, List.setIfInBounds_toArray, List.set_cons_zero, List.set_cons_succ]
    refine wpAnyH_done (by kernel_rfl) ?_ _
    go_wp2
    go_ret
    exact ⟨rfl, HB5.out.trans (hHeld.mono HB5.out.size)⟩
set_option maxRecDepth 100000 in
theorem wireputs_lifted (os : Os) (started : os.Started) (H : Type) (enc : TypeId × Value → H) (F : Stop.Interp) :
    ReturnsInHanded {} Try.checked os 3 .any ((Rows.OpenSpec.upto Rows.wirePutsSpec).pre6 enc Try.prog Try.f3 Rows.wirePutsUptoRow.domain false) (((Rows.OpenSpec.upto Rows.wirePutsSpec).at F).post enc Try.prog Try.f3 false true false false) := by
  refine returnsInHanded_of_cond_sized (C := Try.checked) (s := Rows.OpenSpec.upto Rows.wirePutsSpec) (k := Rows.uptoSmall) rfl own started (by kernel_rfl) Try.func3
    (OpenSpec.witness (enc := enc) (C := Try.checked) (s := Rows.OpenSpec.upto Rows.wirePutsSpec) (k := Rows.uptoSmall) rfl false ⟨#[], #[.slice none 0 0, .int .i64 0, .bool false, .string ⟨#[]⟩], []⟩ 8 (by kernel_rfl) (by kernel_rfl) (by kernel_rfl) (x := ([.nil, .lit (.int .i64 0), .lit (.bool false), .lit (.string [])], [], [])) (by kernel_rfl) rfl (by kernel_rfl)) ?_
  intro W base args ds gs before hval0 hW _ hk0 hsz0 _
  have hbk : Rows.uptoBulkAll (ds ++ gs) ≤ 1048576 := of_decide_eq_true hk0
  have hsz : (DataW.weightsEach Try.prog (Try.f3.params.toList ++ Rows.wirePutsSpec.plain.varTypes Try.prog) (ds ++ gs)).all (· ≤ reachBytes) = true := hsz0
  have hval : ∀ (j : Nat) t v, Try.f3.params[j]? = some t → args[j]? = some v → Value.okWide Try.prog W .any base t v := hval0
  have hW' := hW
  obtain ⟨p, q, hA0, hV, rfl, _, _⟩ := hW
  have hA : DataW.TrodAll enc Try.prog W 0 (fun _ => true) true Try.f3.params.toList args.toList ds p := hA0
  rw [Try.params3] at hA hval hsz
  obtain ⟨v0, v1, v2, v3, d0, d1, d2, d3, p0, p1, p2, p3, rfl, rfl, rfl, h0, h1, h2, h3⟩ := trodAll_four hA
  obtain ⟨rfl, rfl⟩ := trodVars_none hV
  simp only [List.append_nil] at hW'
  obtain ⟨x1, rfl, rfl, rfl, wx1⟩ := open_int Try.underlying3 (hval 1 3 v1 rfl rfl) h1
  obtain ⟨x2, rfl, rfl, rfl⟩ := open_bool Try.underlying4 (hval 2 4 v2 rfl rfl) h2
  obtain ⟨x3, rfl, rfl, rfl, wx3⟩ := Go.ChangeMaps.open_string Try.underlying9 (hval 3 9 v3 rfl rfl) h3
  have hx3 : x3.data.toList.length = x3.size := by simp
  simp only [List.append_nil, Rows.uptoBulkAll, Rows.uptoBulk] at hbk
  have hlt0 : ∀ x ∈ p0, x.block < W.heap.size := fun x hx => hW'.lt x (by simp [hx])
  have h0k := h0
  obtain ⟨A0, L0, c0, rfl, lc0, cm0, B0, N0⟩ := open_bytes_le (1048576-x3.size) Try.underlying22 Try.underlying5 (by kernel_rfl) (hval 0 22 v0 rfl rfl) h0 (fun elems spare e => by
    subst e
    have := bulk_slice elems spare
    omega)
  refine (wireputs_walk A0 L0 c0 x1 x2 x3 W lc0 cm0 B0 N0 (bounds_i64 wx1).1 (bounds_i64 wx1).2 (by omega)).mono fun e W' ⟨he, hb⟩ => ?_
  subst he
  exact ⟨_, rfl, _, _, _, [], _, [], hW', trodAll_mk1 (shut_bool Try.underlying4 _), trodAll_mk4 (Below.trod laidOut (by kernel_rfl) (of_decide_eq_true (by kernel_rfl)) h0k hb hlt0) (shut_int Try.underlying3 wx1) (shut_bool Try.underlying4 x2) (Go.ChangeMaps.shut_string Try.underlying9 wx3), rfl, hb.frame _, fun h => by cases h⟩

theorem wireputs_holds : Rows.WirePutsUptoSaid :=
  OpenClaim.holds_of_cond 3 Try.f3 rfl rfl rfl rfl rfl rfl rfl ⟨rfl, rfl, rfl, rfl, rfl⟩ rfl rfl rfl rfl rfl (by kernel_rfl) Try.func3 (by kernel_rfl)
    (of_decide_eq_true (by kernel_rfl)) (by unfold Func.isWrapper; first | (rw [if_pos (by decide +kernel)]; kernel_rfl) | (rw [if_neg (by decide +kernel)]; exact ⟨rfl, rfl⟩))
    (fun os started H enc _ F => wireputs_lifted os started H enc F)
end Go.Proofs.Ytamejodgilnchaa
