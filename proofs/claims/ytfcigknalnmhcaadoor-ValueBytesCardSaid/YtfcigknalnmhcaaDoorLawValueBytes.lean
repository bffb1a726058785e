/- The statement ValueBytes: a value's bytes are what the document says, and are read back; any bytes are read as the document reads them. Conditions: none but what the card ties (the library's tables hold what their texts lay). -/
import Derived.Test.YtfcigknalnmhcaaDoorVFrame
import Derived.Test.YtfcigknalnmhcaaDoorVRefGet
import Derived.Test.YtfcigknalnmhcaaDoorVPut
import Derived.Test.YtfcigknalnmhcaaDoorVEq
import Derived.Test.YtfcigknalnmhcaaDoorHeldList
namespace Go.Proofs.YtfcigknalnmhcaaDoor
open Go.ChangeShapes Go.WideShapes Go.ChangeAt Go.RowKit

theorem checked_size {K n : Int} {s : ByteArray} (h : checkB K n s.data.toList = true) : s.size ≤ 400 := by
  rcases check_kind h with ⟨_, _, h⟩ | ⟨_, h⟩ | ⟨_, _, h⟩ | ⟨_, _, _, h⟩ | ⟨_, _, _, h⟩
  · rw [← size_list, h]; simp
  · rw [← size_list, h]; simp
  · rw [← size_list, h]; simp
  · exact count_len s h
  · rw [← size_list, h]; simp
theorem stC_put {n most : Int} (R : List UInt8) (h0 : -9223372036854775808 ≤ n) (h1 : n ≤ 9223372036854775807) (h : 0 ≤ n ∧ n ≤ most ∧ n ≤ (R.length : Int)) : stC most (putI n ++ R, false) = (n, (R, false)) := by
  have hi := stI_put h0 h1 R false
  rw [stC_yes (by rw [hi]; exact h), hi]
theorem stT_put {s R : List UInt8} {most : Int} (hs : s.length ≤ 140737488351232) (h : (s.length : Int) ≤ most) : stT most (putT s ++ R, false) = (s, (R, false)) := by
  unfold stT putT
  rw [List.append_assoc, stC_put (s ++ R) (by omega) (by omega) ⟨by omega, h, by rw [List.length_append]; omega⟩]
  simp
/-- A text made of bytes that lie somewhere, in every later world. -/
theorem str_fact {w5 : World} {A : Option Addr} {L : List UInt8} (cap : Nat) (hB : Bs w5 A L) : ∃ t : ByteArray, Hid (t = ⟨L.toArray⟩) ∧ ∀ w', Below w5.heap.size w5 w' → (convert 48 9 (.slice A L.length cap)).run Tryd.prog w' = .ok (.string t) w' :=
  ⟨_, Lib.hid rfl, fun w' h => run_str_of (P := Tryd.prog) (w := w') 48 9 5 cap Tryd.underlying48 Tryd.underlying5 Tryd.underlying9 (hB.below h)⟩

theorem put_add {L M : List UInt8} {tb tx : ByteArray} (hb : tb = ⟨L.toArray⟩) (hx : tx = ⟨(L ++ M).toArray⟩) : tb ++ (⟨M.toArray⟩ : ByteArray) = tx ∧ True := by
  subst hb
  subst hx
  refine ⟨?_, trivial⟩
  rw [ByteArray.mk_append_mk]
theorem run_text_of {w : World} {A : Option Addr} {L : List UInt8} {t : ByteArray} (cap : Nat) (hB : Bs w A L) (h : (⟨L.toArray⟩ : ByteArray) = t) : (convert 48 9 (.slice A L.length cap)).run Tryd.prog w = .ok (.string t) w := by
  rw [← h]
  exact run_str_of (P := Tryd.prog) 48 9 5 cap Tryd.underlying48 Tryd.underlying5 Tryd.underlying9 hB

section
variable {w w' : World} {g g2 V N : Nat} {s s2 : St} {K n : Int} {t : ByteArray}
theorem Bs.onlRd {A : Option Addr} {L : List UInt8} (hB : Bs w A L) (h : Rd N w g s) (ho : Onl g w w') : Bs w' A L := fun h0 => by
  obtain ⟨b, off, e, hc⟩ := hB h0
  exact ⟨b, off, e, fun j hj => (World.cell?_of_block (w := w) (a := ⟨b, off + j, none⟩) (ho.block b (lt_of_cell (hc j hj)) (h.apart (hc j hj)))).trans (hc j hj)⟩
theorem RR.onl (hr : RR w g2 s2) (h : Rd N w g s) (ho : Onl g w w') (hne : g2 ≠ g) : RR w' g2 s2 := by
  have hl := hr.lt
  obtain ⟨A, C, cap, at_, hb, e⟩ := hr
  exact ⟨A, C, cap, at_, ⟨(ho.block g2 hl hne).trans hb.1, hb.2.1.onlRd h ho, hb.2.2⟩, e⟩
theorem Rd.onl (h : Rd N w g s) (hr : RR w g2 s2) (ho : Onl g2 w w') (hne : g ≠ g2) : Rd N w' g s := by
  have hl := h.lt
  obtain ⟨A, C, cap, at_, hb, -⟩ := hr
  obtain ⟨h1, h2, h3, A', cap', h4, h5, h6⟩ := h
  refine ⟨h1, h2, h3, A', cap', (ho.block g hl hne).trans h4, h5, fun h0 => ?_⟩
  obtain ⟨b, off, e, hN, hc⟩ := h6 h0
  exact ⟨b, off, e, hN, fun j hj => (World.cell?_of_block (w := w) (a := ⟨b, off + j, none⟩) (ho.block b (lt_of_cell (hc j hj)) (hb.apart (hc j hj)))).trans (hc j hj)⟩
theorem Vl.onl (h : Vl w V K n t) (ho : Onl g w w') (hne : V ≠ g) : Vl w' V K n t := (ho.block V h.lt hne).trans h
theorem RR.bad (hr : RR w g s) : w.cell? ⟨g, 2, none⟩ = some (.bool s.2) := by
  obtain ⟨A, C, cap, at_, hb, -⟩ := hr
  exact hb.cells.2.2.1
theorem below_drewN {w w' : World} {B : Nat} (h : Below B w w') (m : Nat) : Below B w (w'.drewN m) := ⟨h.os, h.tape, h.output, h.size, h.block⟩
end
theorem RR.first {w : World} {A : Option Addr} {L : List UInt8} {cap : Nat} (hB : Bs w A L) (hlc : L.length ≤ cap) (hl : L.length ≤ 140737488355328) (ty : TypeId) (h : ty = 57) :
    RR (w.alloc (.cells #[.slice A L.length cap, .int .i64 0, .bool false] ty)) w.heap.size (L, false) := by
  subst h
  exact ⟨A, L, cap, 0, ⟨heap_alloc_new w _, hB.below (below_alloc _ _), hlc, hl, Nat.zero_le _⟩, rfl⟩

/-- What was put is read back. -/
theorem get_put {K n : Int} {s : ByteArray} (hc : checkB K n s.data.toList = true) (hs : s.size ≤ 400) (k0 : -9223372036854775808 ≤ K) (k1 : K ≤ 9223372036854775807) (n0 : -9223372036854775808 ≤ n) (n1 : n ≤ 9223372036854775807) :
    getS (putV K n s.data.toList, false) = ((K, n, s.data.toList), ([], false)) := by
  have hl : s.data.toList.length ≤ 400 := by rw [size_list]; exact hs
  have e1 : stI (putV K n s.data.toList, false) = (K, (putI n ++ putT s.data.toList, false)) := by
    unfold putV; rw [List.append_assoc]; exact stI_put k0 k1 _ false
  have e2 : stI (putI n ++ putT s.data.toList, false) = (n, (putT s.data.toList, false)) := stI_put n0 n1 _ false
  have e3 : stT 400 (putT s.data.toList, false) = (s.data.toList, ([], false)) := by
    have := stT_put (s := s.data.toList) (R := []) (most := 400) (by omega) (by omega)
    rwa [List.append_nil] at this
  have := get_yes (s := (putV K n s.data.toList, false))
  rw [e1] at this
  dsimp only at this
  rw [e2] at this
  dsimp only at this
  rw [e3] at this
  exact this rfl hc
theorem str_back (s : ByteArray) : (⟨s.data.toList.toArray⟩ : ByteArray) = s := by cases s; simp
set_option maxHeartbeats 4000000 in
set_option maxRecDepth 100000 in
theorem valuebytes_walk (K n : Int) (s : ByteArray) (A : Option Addr) (L : List UInt8) (cap : Nat) (w : World) (k0 : -9223372036854775808 ≤ K) (k1 : K ≤ 9223372036854775807) (n0 : -9223372036854775808 ≤ n) (n1 : n ≤ 9223372036854775807) (_ : s.size ≤ maxLen)
    (hlc : L.length ≤ cap) (hcm : cap ≤ 140737488351232) (hB : Bs w A L) (hcap : A = none → cap = 0) (hE : Env w) :
    Calls Tryd.prog 8 #[V3 K n s, .slice A L.length cap] w fun e w' => e = .returned (.bool true) ∧ Below w.heap.size w w' := by
  have ba := below_alloc w (.cells #[.int .i64 K, .int .i64 n, .string s] 23)
  have ta := three_new w (.int .i64 K) (.int .i64 n) (.string s) 23
  obtain ⟨w0, hw0⟩ : ∃ w0, w.alloc (.cells #[.int .i64 K, .int .i64 n, .string s] 23) = w0 := ⟨_, rfl⟩
  rw [hw0] at ta ba
  have hE0 := hE.later ba
  have cC := refCheck_any K n s w0
  cases hZ : checkB K n s.data.toList with
  | false =>
    rw [hZ] at cC
    go_enter Tryd.func8, Tryd.ntmps8
    obtain ⟨hlt, a0, a1, a2, -, -, -⟩ := ta
    go_wp2_with fail
    refine cC.mono ?_
    rintro e w1 ⟨rfl, hb1⟩
    have hbw1 := below_to ba hb1
    clear a0 a1 a2 hw0 cC hb1 hZ hE0 ba
    go_wp2_with fail
    have hE1 := hE.later hbw1
    have hB1 := hB.below hbw1
    refine (bytes_any A L cap w1 (by omega) hB1 hcap).mono ?_
    rintro e w2 ⟨A2, cap2, rfl, hB2, hc2, _, hb2⟩
    have hbw2 := below_to hbw1 hb2
    go_wp2_with fail
    refine (new_any A2 L cap2 w2 (by omega) hB2 hc2).mono ?_
    rintro e w3 ⟨g, rfl, hR3, hb3⟩
    have hbw3 := below_to hbw2 hb3
    have hgw : w.heap.size ≤ g := Nat.le_trans hbw2.size hR3.1
    have hgl := hR3.lt
    have hRR4 := RR.first (w := w3) (hB.below hbw3) hlc (by omega) 57 rfl
    have hba := below_alloc w3 (.cells #[.slice A L.length cap, .int .i64 0, .bool false] 57)
    have hR4 := hR3.below hba (Nat.le_refl _)
    have hbw4 := below_to hbw3 hba
    have hg2 : w.heap.size ≤ w3.heap.size := hbw3.size
    have hsz4 := hbw4.size
    have hne : ¬ w3.heap.size = g := by omega
    have hne2 : ¬ g = w3.heap.size := by omega
    have hT : ∀ w', Onl g (w3.alloc (.cells #[.slice A L.length cap, .int .i64 0, .bool false] 57)) w' → Tabs w' := fun w' o => (hE.later (hbw4.trans (o.below hgw hsz4))).tabs
    clear hB2 hc2 hb2 hb3 hR3 hba hB1 hE1 hbw1 hbw2
    go_wp2_with fail
    generalize hw4 : w3.alloc (.cells #[.slice A L.length cap, .int .i64 0, .bool false] 57) = w4 at *
    refine (get_any _ g (L, false) w4 hR4 hT).mono ?_
    rintro e w5 ⟨rfl, hR5, o5⟩
    have hRR5 := hRR4.onl hR4 o5 hne
    have hbw5 := hbw4.trans (o5.below hgw hsz4)
    have cR := fun w h => refget_any w3.heap.size (L, false) w h
    obtain ⟨sx, hsx⟩ : ∃ sx, (getS (L, false)).2 = sx := ⟨_, rfl⟩
    obtain ⟨Kx, hKx⟩ : ∃ Kx, (getS (L, false)).1.1 = Kx := ⟨_, rfl⟩
    obtain ⟨nx, hnx⟩ : ∃ nx, (getS (L, false)).1.2.1 = nx := ⟨_, rfl⟩
    obtain ⟨tx, htx⟩ : ∃ tx : ByteArray, (⟨(getS (L, false)).1.2.2.toArray⟩ : ByteArray) = tx := ⟨_, rfl⟩
    unfold GotR at cR
    simp only [hsx, hKx, hnx, htx] at cR hR5 ⊢
    have hxv := Vl.new w5 Kx nx tx 23 rfl
    have hbx := below_alloc w5 (.cells #[.int .i64 Kx, .int .i64 nx, .string tx] 23)
    have hR6 := hR5.below hbx (Nat.le_refl _)
    have hRR6 := hRR5.later hbx
    have hbw6 := below_to hbw5 hbx
    have hsz6 := hbw6.size
    have hl5 := hRR5.lt
    have hxg : ¬ w5.heap.size = w3.heap.size := by omega
    clear hw4 hR4 hRR4 hT hsx hKx hnx htx hRR5 hR5 o5 hbw4 hbx hbw5 hsz4
    go_wp2_with fail
    generalize hw6 : w5.alloc (.cells #[.int .i64 Kx, .int .i64 nx, .string tx] 23) = w6 at *
    refine (cR w6 hRR6).mono ?_
    rintro e w7 ⟨rfl, hRR7, o7⟩
    have hR7 := hR6.onl hRR6 o7 hne2
    have hx7 := hxv.onl o7 hxg
    have hbw7 := hbw6.trans (o7.below hg2 hsz6)
    have hyv := Vl.new w7 Kx nx tx 23 rfl
    have hby := below_alloc w7 (.cells #[.int .i64 Kx, .int .i64 nx, .string tx] 23)
    have hR8 := hR7.below hby (Nat.le_refl _)
    have hRR8 := hRR7.later hby
    have hx8 := hx7.later hby
    have hbw8 := below_to hbw7 hby
    clear hR6 hRR6 o7 hx7 hxv hw6 hRR7 hR7 hbw7 hby cR
    go_wp2_with fail
    generalize hw8 : w7.alloc (.cells #[.int .i64 Kx, .int .i64 nx, .string tx] 23) = w8 at *
    clear hw8
    have hE8 := hE.later hbw8
    obtain ⟨Lx, bx⟩ := sx
    have kx := fun wz (h : Below w8.heap.size w8 wz) => (hx8.later h).cells
    have ky := fun wz (h : Below w8.heap.size w8 wz) => (hyv.later h).cells
    have kb := fun wz (h : Below w8.heap.size w8 wz) => (hRR8.later h).bad
    have cO := fun wz (h : Below w8.heap.size w8 wz) => ok_any _ g (Lx, bx) wz (hR8.below h (Nat.le_refl _))
    have cL := fun wz (h : Below w8.heap.size w8 wz) => left_any _ g (Lx, bx) wz (hR8.below h (Nat.le_refl _))
    have cM := fun wz (h : Below w8.heap.size w8 wz) => refleft_any w3.heap.size (Lx, bx) wz (hRR8.later h)
    have hqi := fun w => eqlIn_val Kx nx tx Kx nx tx w
    simp only [sameV_refl] at hqi
    clear hx8 hyv hR8 hRR8
    refine wp_region_held_drew (S := fun w' => Below w8.heap.size w8 w') (by kernel_rfl) ((Below.refl _ _).drew) (fun hHeld => ?_)
    refine held_take (i := 0) (v := ?_) rfl (by kernel_rfl) (by kernel_rfl) (by kernel_rfl) (fun _ _ _ h => h) (by rfl) hHeld ?_ ?_
    rotate_left
    · intro wz hSz; obtain ⟨q0, q1, q2, -, -, -⟩ := kx wz hSz; go_simp; try with_reducible rfl
    simp only [Act.put, List.setIfInBounds_toArray, List.set_cons_zero, List.set_cons_succ]
    refine held_take (i := 1) (v := ?_) rfl (by kernel_rfl) (by kernel_rfl) (by kernel_rfl) (fun _ _ _ h => h) (by rfl) hHeld ?_ ?_
    rotate_left
    · intro wz hSz; obtain ⟨q0, q1, q2, -, -, -⟩ := ky wz hSz; go_simp; try with_reducible rfl
    simp only [Act.put, List.setIfInBounds_toArray, List.set_cons_zero, List.set_cons_succ]
    refine held_take (i := 2) (v := .bool true) rfl (by kernel_rfl) (by kernel_rfl) (by kernel_rfl) (fun _ _ _ h => h) (by rfl) hHeld ?_ ?_
    · intro wz hSz; (go_simp; first | done | rfl | simp [hqi])
    simp only [Act.put, List.setIfInBounds_toArray, List.set_cons_zero, List.set_cons_succ]
    refine held_take (i := 3) (v := ?_) rfl (by kernel_rfl) (by kernel_rfl) (by kernel_rfl) (fun _ _ _ h => h) (by rfl) hHeld ?_ ?_
    rotate_left
    · intro wz hSz; go_simp; try with_reducible rfl
    simp only [Act.put, List.setIfInBounds_toArray, List.set_cons_zero, List.set_cons_succ]
    refine held_take (i := 4) (v := ?_) rfl (by kernel_rfl) (by kernel_rfl) (by kernel_rfl) (fun _ _ _ h => h) (by rfl) hHeld ?_ ?_
    rotate_left
    · intro wz hSz; go_simp; try with_reducible rfl
    simp only [Act.put, List.setIfInBounds_toArray, List.set_cons_zero, List.set_cons_succ]
    refine held_take (i := 6) (v := ?_) rfl (by kernel_rfl) (by kernel_rfl) (by kernel_rfl) (fun _ _ _ h => h) (by rfl) hHeld ?_ ?_
    rotate_left
    · intro wz hSz; go_simp; try with_reducible rfl
    simp only [Act.put, List.setIfInBounds_toArray, List.set_cons_zero, List.set_cons_succ]
    refine held_take (i := 7) (v := ?_) rfl (by kernel_rfl) (by kernel_rfl) (by kernel_rfl) (fun _ _ _ h => h) (by rfl) hHeld ?_ ?_
    rotate_left
    · intro wz hSz; go_simp; try with_reducible rfl
    simp only [Act.put, List.setIfInBounds_toArray, List.set_cons_zero, List.set_cons_succ]
    refine held_take (i := 8) (v := ?_) rfl (by kernel_rfl) (by kernel_rfl) (by kernel_rfl) (fun _ _ _ h => h) (by rfl) hHeld ?_ ?_
    rotate_left
    · intro wz hSz; go_simp; try with_reducible rfl
    simp only [Act.put, List.setIfInBounds_toArray, List.set_cons_zero, List.set_cons_succ]
    refine held_take (i := 9) (v := ?_) rfl (by kernel_rfl) (by kernel_rfl) (by kernel_rfl) (fun _ _ _ h => h) (by rfl) hHeld ?_ ?_
    rotate_left
    · intro wz hSz; have q0 := kb wz hSz; go_simp; try with_reducible rfl
    simp only [Act.put, List.setIfInBounds_toArray, List.set_cons_zero, List.set_cons_succ]
    refine held_take (i := 10) (v := ?_) rfl (by kernel_rfl) (by kernel_rfl) (by kernel_rfl) (fun _ _ _ h => h) (by rfl) hHeld ?_ ?_
    rotate_left
    · intro wz hSz; go_simp; try with_reducible rfl
    simp only [Act.put, List.setIfInBounds_toArray, List.set_cons_zero, List.set_cons_succ]
    refine held_call (i := 5) (by kernel_rfl) rfl (by rfl) (by go_simp; try with_reducible rfl) (cO _ hHeld) ?_
    rintro e wy ⟨rfl, rfl⟩
    refine ⟨_, rfl, hHeld, ?_⟩
    replace hHeld := hHeld
    simp only [Act.put, List.setIfInBounds_toArray, List.set_cons_zero, List.set_cons_succ]
    refine held_take (i := 11) (v := .bool true) rfl (by kernel_rfl) (by kernel_rfl) (by kernel_rfl) (fun _ _ _ h => h) (by rfl) hHeld ?_ ?_
    · intro wz hSz; (go_simp; first | done | rfl | simp)
    simp only [Act.put, List.setIfInBounds_toArray, List.set_cons_zero, List.set_cons_succ]
    refine held_take (i := 12) (v := ?_) rfl (by kernel_rfl) (by kernel_rfl) (by kernel_rfl) (fun _ _ _ h => h) (by rfl) hHeld ?_ ?_
    rotate_left
    · intro wz hSz; go_simp; try with_reducible rfl
    simp only [Act.put, List.setIfInBounds_toArray, List.set_cons_zero, List.set_cons_succ]
    refine held_take (i := 13) (v := ?_) rfl (by kernel_rfl) (by kernel_rfl) (by kernel_rfl) (fun _ _ _ h => h) (by rfl) hHeld ?_ ?_
    rotate_left
    · intro wz hSz; go_simp; try with_reducible rfl
    simp only [Act.put, List.setIfInBounds_toArray, List.set_cons_zero, List.set_cons_succ]
    refine held_take (i := 14) (v := ?_) rfl (by kernel_rfl) (by kernel_rfl) (by kernel_rfl) (fun _ _ _ h => h) (by rfl) hHeld ?_ ?_
    rotate_left
    · intro wz hSz; go_simp; try with_reducible rfl
    simp only [Act.put, List.setIfInBounds_toArray, List.set_cons_zero, List.set_cons_succ]
    refine held_take (i := 16) (v := ?_) rfl (by kernel_rfl) (by kernel_rfl) (by kernel_rfl) (fun _ _ _ h => h) (by rfl) hHeld ?_ ?_
    rotate_left
    · intro wz hSz; go_simp; try with_reducible rfl
    simp only [Act.put, List.setIfInBounds_toArray, List.set_cons_zero, List.set_cons_succ]
    refine held_call (i := 15) (by kernel_rfl) rfl (by rfl) (by go_simp; try with_reducible rfl) (cL _ hHeld) ?_
    rintro e wy ⟨rfl, rfl⟩
    refine ⟨_, rfl, hHeld, ?_⟩
    replace hHeld := hHeld
    simp only [Act.put, List.setIfInBounds_toArray, List.set_cons_zero, List.set_cons_succ]
    refine held_call (i := 17) (by kernel_rfl) rfl (by rfl) (by go_simp; try with_reducible rfl) (cM _ hHeld) ?_
    rintro e wy ⟨rfl, m17, rfl⟩
    refine ⟨_, rfl, below_drewN hHeld m17, ?_⟩
    replace hHeld := below_drewN hHeld m17
    simp only [Act.put, List.setIfInBounds_toArray, List.set_cons_zero, List.set_cons_succ]
    refine held_take (i := 18) (v := .bool true) rfl (by kernel_rfl) (by kernel_rfl) (by kernel_rfl) (fun _ _ _ h => h) (by rfl) hHeld ?_ ?_
    · intro wz hSz; (go_simp; first | done | rfl | simp)
    simp only [Act.put, List.setIfInBounds_toArray, List.set_cons_zero, List.set_cons_succ]
    refine held_take (i := 19) (v := ?_) rfl (by kernel_rfl) (by kernel_rfl) (by kernel_rfl) (fun _ _ _ h => h) (by rfl) hHeld ?_ ?_
    rotate_left
    · intro wz hSz; go_simp; try with_reducible rfl
    simp only [Act.put, List.setIfInBounds_toArray, List.set_cons_zero, List.set_cons_succ]
    refine held_take (i := 20) (v := ?_) rfl (by kernel_rfl) (by kernel_rfl) (by kernel_rfl) (fun _ _ _ h => h) (by rfl) hHeld ?_ ?_
    rotate_left
    · intro wz hSz; go_simp; try with_reducible rfl
    simp only [Act.put, List.setIfInBounds_toArray, List.set_cons_zero, List.set_cons_succ]
    refine held_call (i := 21) (by kernel_rfl) rfl (by rfl) (by go_simp; try with_reducible rfl) (awake_any _ (hE8.later hHeld)) ?_
    rintro e wy ⟨rfl, hy⟩
    refine ⟨_, rfl, below_to hHeld hy, ?_⟩
    replace hHeld := below_to hHeld hy
    simp only [Act.put, List.setIfInBounds_toArray, List.set_cons_zero, List.set_cons_succ]
    refine held_take (i := 22) (v := ?_) rfl (by kernel_rfl) (by kernel_rfl) (by kernel_rfl) (fun _ _ _ h => h) (by rfl) hHeld ?_ ?_
    rotate_left
    · intro wz hSz; go_simp; try with_reducible rfl
    simp only [Act.put, List.setIfInBounds_toArray, List.set_cons_zero, List.set_cons_succ]
    refine held_take (i := 23) (v := ?_) rfl (by kernel_rfl) (by kernel_rfl) (by kernel_rfl) (fun _ _ _ h => h) (by rfl) hHeld ?_ ?_
    rotate_left
    · intro wz hSz; go_simp; try with_reducible rfl
    simp only [Act.put, List.setIfInBounds_toArray, List.set_cons_zero, List.set_cons_succ]
    refine wpAnyH_done (by kernel_rfl) ?_ _
    go_wp2
    go_ret
    exact ⟨rfl, below_to hbw8 hHeld⟩
  | true =>
    rw [hZ] at cC
    have ta2 := fun wz h => ta.later (w' := wz) h
    go_enter Tryd.func8, Tryd.ntmps8
    obtain ⟨hlt, a0, a1, a2, -, -, -⟩ := ta
    go_wp2_with fail
    refine cC.mono ?_
    rintro e w1 ⟨rfl, hb1⟩
    have hbw1 := below_to ba hb1
    have hsz := checked_size hZ
    have hgp := get_put hZ hsz k0 k1 n0 n1
    have hll : L.length + s.data.toList.length + 30 ≤ 140737488355328 := by rw [size_list]; omega
    have kv := fun wz (h : Below w1.heap.size w1 wz) => ta2 wz (below_to hb1 h)
    have cP := fun A2 cap2 wz h1 h2 => put_any A2 L cap2 K n s wz hll h1 h2 k0 k1 n0 n1
    have cQ := fun wz => refput_any K n s wz (by omega) k0 k1 n0 n1
    have hVl : 3 ≤ (putV K n s.data.toList).length ∧ (putV K n s.data.toList).length ≤ 430 := by
      have a := putI_pos K
      have b := putI_pos n
      have c := putI_pos (s.data.toList.length : Int)
      have a2 := putI_ten (v := K) k0 k1
      have b2 := putI_ten (v := n) n0 n1
      have c2 := putI_ten (v := (s.data.toList.length : Int)) (by omega) (by omega)
      unfold putV putT
      simp only [List.length_append, size_list] at *
      omega
    obtain ⟨X, hX⟩ : ∃ X, putV K n s.data.toList = X := ⟨_, rfl⟩
    simp only [hX] at cP cQ hVl hgp
    obtain ⟨hV1, hV2⟩ := hVl
    have HGP := Lib.hid hgp
    clear a0 a1 a2 hw0 cC hZ hX hgp hll
    go_wp2_with fail
    refine wp_region_held_drew (S := fun w' => Below w1.heap.size w1 w') (by kernel_rfl) ((Below.refl _ _).drew) (fun hHeld => ?_)
    refine held_take (i := 0) (v := ?_) rfl (by kernel_rfl) (by kernel_rfl) (by kernel_rfl) (fun _ _ _ h => h) (by rfl) hHeld ?_ ?_
    rotate_left
    · intro wz hSz; go_simp; try with_reducible rfl
    simp only [Act.put, List.setIfInBounds_toArray, List.set_cons_zero, List.set_cons_succ]
    refine held_take (i := 2) (v := ?_) rfl (by kernel_rfl) (by kernel_rfl) (by kernel_rfl) (fun _ _ _ h => h) (by rfl) hHeld ?_ ?_
    rotate_left
    · intro wz hSz; obtain ⟨-, q0, q1, q2, -, -, -⟩ := kv wz hSz; go_simp; try with_reducible rfl
    simp only [Act.put, List.setIfInBounds_toArray, List.set_cons_zero, List.set_cons_succ]
    refine held_call (i := 1) (by kernel_rfl) rfl (by rfl) (by go_simp; try with_reducible rfl) (bytes_any A L cap _ (by omega) (hB.below (below_to hbw1 hHeld)) hcap) ?_
    rintro e wy ⟨A2, cap2, rfl, hB2, _, ho2, hy⟩
    refine ⟨_, rfl, below_to hHeld hy, ?_⟩
    replace hHeld := below_to hHeld hy
    simp only [Act.put, List.setIfInBounds_toArray, List.set_cons_zero, List.set_cons_succ]
    clear hy
    refine held_call (i := 3) (by kernel_rfl) rfl (by rfl) (by go_simp; try with_reducible rfl) (cP A2 cap2 _ (own_cap ho2) hB2) ?_
    rintro e wy ⟨A3, cap3, rfl, hB3, hc3, ho3, hy⟩
    refine ⟨_, rfl, below_to hHeld hy, ?_⟩
    replace hHeld := below_to hHeld hy
    simp only [Act.put, List.setIfInBounds_toArray, List.set_cons_zero, List.set_cons_succ]
    clear hy hB2 ho2
    refine held_take (i := 4) (v := ?_) rfl (by kernel_rfl) (by kernel_rfl) (by kernel_rfl) (fun _ _ _ h => h) (by rfl) hHeld ?_ ?_
    rotate_left
    · intro wz hSz; go_simp; try with_reducible rfl
    simp only [Act.put, List.setIfInBounds_toArray, List.set_cons_zero, List.set_cons_succ]
    refine wpAnyH_done (by kernel_rfl) ?_ _
    obtain ⟨w2, rfl⟩ : ∃ w2, w2 = wy := ⟨_, rfl⟩
    have hcap3 := own_cap ho3
    obtain ⟨tx, HTX, ex⟩ := str_fact cap3 hB3
    obtain ⟨tb, HTB, eb⟩ := str_fact cap (hB.below (below_to hbw1 hHeld))
    have hadd := (put_add (M := X) HTB.out HTX.out).1
    obtain ⟨tv, htv⟩ : ∃ tv : ByteArray, (⟨X.toArray⟩ : ByteArray) = tv := ⟨_, rfl⟩
    rw [htv] at hadd
    have hin : ¬ 9223372036854775807 < tb.size + tv.size := by
      have h1 : tb.size = L.length := by rw [HTB.out]; show L.toArray.size = _; simp
      have h2 : tv.size = X.length := by rw [← htv]; show X.toArray.size = _; simp
      omega
    have kv2 := fun wz (h : Below w2.heap.size w2 wz) => kv wz (below_to hHeld h)
    have hbw2 := below_to hbw1 hHeld
    have hb02 : Below w0.heap.size w0 w2 := below_to hb1 hHeld
    obtain ⟨M, hM⟩ : ∃ M, L ++ X = M := ⟨_, rfl⟩
    have hMl : M.length = L.length + X.length := by rw [← hM, List.length_append]
    have hMd : M.drop L.length = X := by rw [← hM, List.drop_left]
    simp only [hM] at *
    simp only [hMl] at ex hcap3
    have HB3 := Lib.hid hB3
    have HC3 := Lib.hid hc3
    have HTV := Lib.hid htv
    clear hHeld cP kv hB3 ho3 HTX HTB htv hM hc3 hb1 hbw1
    go_wp2_with fail
    refine wp_region_held_drew (S := fun w' => Below w2.heap.size w2 w') (by kernel_rfl) ((Below.refl _ _).drew) (fun hHeld => ?_)
    refine held_take (i := 0) (v := ?_) rfl (by kernel_rfl) (by kernel_rfl) (by kernel_rfl) (fun _ _ _ h => h) (by rfl) hHeld ?_ ?_
    rotate_left
    · intro wz hSz; go_simp; try with_reducible rfl
    simp only [Act.put, List.setIfInBounds_toArray, List.set_cons_zero, List.set_cons_succ]
    refine held_take (i := 1) (v := ?_) rfl (by kernel_rfl) (by kernel_rfl) (by kernel_rfl) (fun _ _ _ h => h) (by rfl) hHeld ?_ ?_
    rotate_left
    · intro wz hSz; have q0 := ex wz hSz; go_simp; try with_reducible rfl
    simp only [Act.put, List.setIfInBounds_toArray, List.set_cons_zero, List.set_cons_succ]
    refine held_take (i := 2) (v := ?_) rfl (by kernel_rfl) (by kernel_rfl) (by kernel_rfl) (fun _ _ _ h => h) (by rfl) hHeld ?_ ?_
    rotate_left
    · intro wz hSz; go_simp; try with_reducible rfl
    simp only [Act.put, List.setIfInBounds_toArray, List.set_cons_zero, List.set_cons_succ]
    refine held_take (i := 3) (v := ?_) rfl (by kernel_rfl) (by kernel_rfl) (by kernel_rfl) (fun _ _ _ h => h) (by rfl) hHeld ?_ ?_
    rotate_left
    · intro wz hSz; have q0 := eb wz hSz; go_simp; try with_reducible rfl
    simp only [Act.put, List.setIfInBounds_toArray, List.set_cons_zero, List.set_cons_succ]
    refine held_take (i := 4) (v := ?_) rfl (by kernel_rfl) (by kernel_rfl) (by kernel_rfl) (fun _ _ _ h => h) (by rfl) hHeld ?_ ?_
    rotate_left
    · intro wz hSz; obtain ⟨-, q0, q1, q2, -, -, -⟩ := kv2 wz hSz; go_simp; try with_reducible rfl
    simp only [Act.put, List.setIfInBounds_toArray, List.set_cons_zero, List.set_cons_succ]
    refine held_call (i := 5) (by kernel_rfl) rfl (by rfl) (by go_simp; try with_reducible rfl) (cQ _) ?_
    rintro e wy ⟨A4, cap4, rfl, hB4, _, _, hy⟩
    refine ⟨_, rfl, below_to hHeld hy, ?_⟩
    replace hHeld := below_to hHeld hy
    simp only [Act.put, List.setIfInBounds_toArray, List.set_cons_zero, List.set_cons_succ]
    have r4 := run_text_of cap4 hB4 HTV.out
    clear hy hB4
    refine held_read (i := 6) (v := ?_) (by kernel_rfl) rfl (by rfl) hHeld ?_ ?_
    rotate_left
    · go_simp; try with_reducible rfl
    simp only [Act.put, List.setIfInBounds_toArray, List.set_cons_zero, List.set_cons_succ]
    refine held_take (i := 7) (v := ?_) rfl (by kernel_rfl) (by kernel_rfl) (by kernel_rfl) (fun _ _ _ h => h) (by rfl) hHeld ?_ ?_
    rotate_left
    · intro wz hSz; go_simp; try with_reducible rfl
    simp only [Act.put, List.setIfInBounds_toArray, List.set_cons_zero, List.set_cons_succ]
    have hfalse : (!(tx.toList == (tb ++ tv).toList)) = false := by rw [hadd]; simp
    refine held_take (i := 8) (v := .bool false) rfl (by kernel_rfl) (by kernel_rfl) (by kernel_rfl) (fun _ _ _ h => h) (by rfl) hHeld ?_ ?_
    · intro wz hSz; (go_simp; first | done | rfl | exact hfalse | simp [hadd])
    simp only [Act.put, List.setIfInBounds_toArray, List.set_cons_zero, List.set_cons_succ]
    refine wpAnyH_done (by kernel_rfl) ?_ _
    obtain ⟨w3, rfl⟩ : ∃ w3, w3 = wy := ⟨_, rfl⟩
    have hbw3 := below_to hbw2 hHeld
    have hb03 : Below w0.heap.size w0 w3 := below_to hb02 hHeld
    have hB5 := HB3.out.below hHeld
    have hl1 : L.length ≤ L.length + X.length := by omega
    have hc1 : ¬ cap3 = L.length := by omega
    clear hHeld r4 ex eb hin hadd hfalse kv2 cQ
    go_wp2_with fail
    have hBx := bs_drop hB5 L.length cap3 (by omega)
    rw [if_neg hc1, hMd] at hBx
    refine (new_any _ X _ w3 (by omega) hBx (fun h => by rw [Option.map_eq_none_iff] at h; have := HC3.out h; omega)).mono ?_
    rintro e w4 ⟨g, rfl, hR4, hb4⟩
    have hbw4 := below_to hbw3 hb4
    have hb04 := below_to hb03 hb4
    have hg0 : w0.heap.size ≤ g := Nat.le_trans hb03.size hR4.1
    have hs04 := hb04.size
    have hT : ∀ w', Onl g w4.drew w' → Tabs w' := fun w' o => (hE0.later (hb04.drew.trans (o.below hg0 hs04))).tabs
    have cG : Calls Tryd.prog 36 #[.pointer (some ⟨g, 0, none⟩)] w4.drew fun e w' => e = .returned (V3 K n s) ∧ Rd w3.heap.size w' g ([], false) ∧ Onl g w4.drew w' := by
      refine (get_any _ g (X, false) w4.drew hR4.drew hT).mono ?_
      rintro e w' ⟨he, hr, ho⟩
      rw [HGP.out] at he hr
      rw [str_back] at he
      exact ⟨he, hr, ho⟩
    have cE : ∀ wz, Rd w3.heap.size wz g ([], false) → Calls Tryd.prog 37 #[.pointer (some ⟨g, 0, none⟩)] wz fun e w' => e = .returned (.bool true) ∧ wz = w' := fun wz h => end_any _ g ([], false) wz h
    have kv := fun wz (h : Below w0.heap.size w0 wz) => ta2 wz h
    have hqi := fun w => eqlIn_val K n s K n s w
    simp only [sameV_refl] at hqi
    clear hBx hc1 hl1 HB3 HC3 hB5 HGP HTV hT hMd hMl hR4 hb4
    go_wp2_with fail
    refine wp_region_held_drew (S := fun w' => Below w0.heap.size w0 w') (by kernel_rfl) (hb04.drew) (fun hHeld => ?_)
    refine held_take (i := 0) (v := ?_) rfl (by kernel_rfl) (by kernel_rfl) (by kernel_rfl) (fun _ _ _ h => h) (by rfl) hHeld ?_ ?_
    rotate_left
    · intro wz hSz; go_simp; try with_reducible rfl
    simp only [Act.put, List.setIfInBounds_toArray, List.set_cons_zero, List.set_cons_succ]
    refine held_take (i := 2) (v := ?_) rfl (by kernel_rfl) (by kernel_rfl) (by kernel_rfl) (fun _ _ _ h => h) (by rfl) hHeld ?_ ?_
    rotate_left
    · intro wz hSz; obtain ⟨-, q0, q1, q2, -, -, -⟩ := kv wz hSz; go_simp; try with_reducible rfl
    simp only [Act.put, List.setIfInBounds_toArray, List.set_cons_zero, List.set_cons_succ]
    refine held_call (i := 1) (by kernel_rfl) rfl (by rfl) (by go_simp; try with_reducible rfl) (cG) ?_
    rintro e wy ⟨rfl, hR6, o6⟩
    refine ⟨_, rfl, hHeld.trans (o6.below hg0 hs04), ?_⟩
    replace hHeld := hHeld.trans (o6.below hg0 hs04)
    simp only [Act.put, List.setIfInBounds_toArray, List.set_cons_zero, List.set_cons_succ]
    refine held_take (i := 3) (v := .bool false) rfl (by kernel_rfl) (by kernel_rfl) (by kernel_rfl) (fun _ _ _ h => h) (by rfl) hHeld ?_ ?_
    · intro wz hSz; (go_simp; first | done | rfl | simp [hqi])
    simp only [Act.put, List.setIfInBounds_toArray, List.set_cons_zero, List.set_cons_succ]
    refine held_take (i := 4) (v := ?_) rfl (by kernel_rfl) (by kernel_rfl) (by kernel_rfl) (fun _ _ _ h => h) (by rfl) hHeld ?_ ?_
    rotate_left
    · intro wz hSz; go_simp; try with_reducible rfl
    simp only [Act.put, List.setIfInBounds_toArray, List.set_cons_zero, List.set_cons_succ]
    refine held_take (i := 5) (v := ?_) rfl (by kernel_rfl) (by kernel_rfl) (by kernel_rfl) (fun _ _ _ h => h) (by rfl) hHeld ?_ ?_
    rotate_left
    · intro wz hSz; go_simp; try with_reducible rfl
    simp only [Act.put, List.setIfInBounds_toArray, List.set_cons_zero, List.set_cons_succ]
    refine held_call (i := 6) (by kernel_rfl) rfl (by rfl) (by go_simp; try with_reducible rfl) (cE _ hR6) ?_
    rintro e wy ⟨rfl, rfl⟩
    refine ⟨_, rfl, hHeld, ?_⟩
    replace hHeld := hHeld
    simp only [Act.put, List.setIfInBounds_toArray, List.set_cons_zero, List.set_cons_succ]
    refine held_take (i := 7) (v := ?_) rfl (by kernel_rfl) (by kernel_rfl) (by kernel_rfl) (fun _ _ _ h => h) (by rfl) hHeld ?_ ?_
    rotate_left
    · intro wz hSz; go_simp; try with_reducible rfl
    simp only [Act.put, List.setIfInBounds_toArray, List.set_cons_zero, List.set_cons_succ]
    refine held_take (i := 8) (v := ?_) rfl (by kernel_rfl) (by kernel_rfl) (by kernel_rfl) (fun _ _ _ h => h) (by rfl) hHeld ?_ ?_
    rotate_left
    · intro wz hSz; go_simp; try with_reducible rfl
    simp only [Act.put, List.setIfInBounds_toArray, List.set_cons_zero, List.set_cons_succ]
    refine wpAnyH_done (by kernel_rfl) ?_ _
    have hbwy := below_to ba hHeld
    clear hHeld hR6 o6 cG cE kv hqi ta2 hbw4 hb04 hbw3 hb03 hbw2 hb02 hcap3 hV1 hV2
    go_wp2_with fail
    have hE1 := hE.later hbwy
    have hB1 := hB.below hbwy
    refine (bytes_any A L cap wy (by omega) hB1 hcap).mono ?_
    rintro e w2 ⟨A2, cap2, rfl, hB2, hc2, _, hb2⟩
    have hbw2 := below_to hbwy hb2
    go_wp2_with fail
    refine (new_any A2 L cap2 w2 (by omega) hB2 hc2).mono ?_
    rintro e w3 ⟨g, rfl, hR3, hb3⟩
    have hbw3 := below_to hbw2 hb3
    have hgw : w.heap.size ≤ g := Nat.le_trans hbw2.size hR3.1
    have hgl := hR3.lt
    have hRR4 := RR.first (w := w3) (hB.below hbw3) hlc (by omega) 57 rfl
    have hba := below_alloc w3 (.cells #[.slice A L.length cap, .int .i64 0, .bool false] 57)
    have hR4 := hR3.below hba (Nat.le_refl _)
    have hbw4 := below_to hbw3 hba
    have hg2 : w.heap.size ≤ w3.heap.size := hbw3.size
    have hsz4 := hbw4.size
    have hne : ¬ w3.heap.size = g := by omega
    have hne2 : ¬ g = w3.heap.size := by omega
    have hT : ∀ w', Onl g (w3.alloc (.cells #[.slice A L.length cap, .int .i64 0, .bool false] 57)) w' → Tabs w' := fun w' o => (hE.later (hbw4.trans (o.below hgw hsz4))).tabs
    clear hB2 hc2 hb2 hb3 hR3 hba hB1 hE1 hbwy hbw2
    go_wp2_with fail
    generalize hw4 : w3.alloc (.cells #[.slice A L.length cap, .int .i64 0, .bool false] 57) = w4 at *
    refine (get_any _ g (L, false) w4 hR4 hT).mono ?_
    rintro e w5 ⟨rfl, hR5, o5⟩
    have hRR5 := hRR4.onl hR4 o5 hne
    have hbw5 := hbw4.trans (o5.below hgw hsz4)
    have cR := fun w h => refget_any w3.heap.size (L, false) w h
    obtain ⟨sx, hsx⟩ : ∃ sx, (getS (L, false)).2 = sx := ⟨_, rfl⟩
    obtain ⟨Kx, hKx⟩ : ∃ Kx, (getS (L, false)).1.1 = Kx := ⟨_, rfl⟩
    obtain ⟨nx, hnx⟩ : ∃ nx, (getS (L, false)).1.2.1 = nx := ⟨_, rfl⟩
    obtain ⟨tx, htx⟩ : ∃ tx : ByteArray, (⟨(getS (L, false)).1.2.2.toArray⟩ : ByteArray) = tx := ⟨_, rfl⟩
    unfold GotR at cR
    simp only [hsx, hKx, hnx, htx] at cR hR5 ⊢
    have hxv := Vl.new w5 Kx nx tx 23 rfl
    have hbx := below_alloc w5 (.cells #[.int .i64 Kx, .int .i64 nx, .string tx] 23)
    have hR6 := hR5.below hbx (Nat.le_refl _)
    have hRR6 := hRR5.later hbx
    have hbw6 := below_to hbw5 hbx
    have hsz6 := hbw6.size
    have hl5 := hRR5.lt
    have hxg : ¬ w5.heap.size = w3.heap.size := by omega
    clear hw4 hR4 hRR4 hT hsx hKx hnx htx hRR5 hR5 o5 hbw4 hbx hbw5 hsz4
    go_wp2_with fail
    generalize hw6 : w5.alloc (.cells #[.int .i64 Kx, .int .i64 nx, .string tx] 23) = w6 at *
    refine (cR w6 hRR6).mono ?_
    rintro e w7 ⟨rfl, hRR7, o7⟩
    have hR7 := hR6.onl hRR6 o7 hne2
    have hx7 := hxv.onl o7 hxg
    have hbw7 := hbw6.trans (o7.below hg2 hsz6)
    have hyv := Vl.new w7 Kx nx tx 23 rfl
    have hby := below_alloc w7 (.cells #[.int .i64 Kx, .int .i64 nx, .string tx] 23)
    have hR8 := hR7.below hby (Nat.le_refl _)
    have hRR8 := hRR7.later hby
    have hx8 := hx7.later hby
    have hbw8 := below_to hbw7 hby
    clear hR6 hRR6 o7 hx7 hxv hw6 hRR7 hR7 hbw7 hby cR
    go_wp2_with fail
    generalize hw8 : w7.alloc (.cells #[.int .i64 Kx, .int .i64 nx, .string tx] 23) = w8 at *
    clear hw8
    have hE8 := hE.later hbw8
    obtain ⟨Lx, bx⟩ := sx
    have kx := fun wz (h : Below w8.heap.size w8 wz) => (hx8.later h).cells
    have ky := fun wz (h : Below w8.heap.size w8 wz) => (hyv.later h).cells
    have kb := fun wz (h : Below w8.heap.size w8 wz) => (hRR8.later h).bad
    have cO := fun wz (h : Below w8.heap.size w8 wz) => ok_any _ g (Lx, bx) wz (hR8.below h (Nat.le_refl _))
    have cL := fun wz (h : Below w8.heap.size w8 wz) => left_any _ g (Lx, bx) wz (hR8.below h (Nat.le_refl _))
    have cM := fun wz (h : Below w8.heap.size w8 wz) => refleft_any w3.heap.size (Lx, bx) wz (hRR8.later h)
    have hqi := fun w => eqlIn_val Kx nx tx Kx nx tx w
    simp only [sameV_refl] at hqi
    clear hx8 hyv hR8 hRR8
    refine wp_region_held_drew (S := fun w' => Below w8.heap.size w8 w') (by kernel_rfl) ((Below.refl _ _).drew) (fun hHeld => ?_)
    refine held_take (i := 0) (v := ?_) rfl (by kernel_rfl) (by kernel_rfl) (by kernel_rfl) (fun _ _ _ h => h) (by rfl) hHeld ?_ ?_
    rotate_left
    · intro wz hSz; obtain ⟨q0, q1, q2, -, -, -⟩ := kx wz hSz; go_simp; try with_reducible rfl
    simp only [Act.put, List.setIfInBounds_toArray, List.set_cons_zero, List.set_cons_succ]
    refine held_take (i := 1) (v := ?_) rfl (by kernel_rfl) (by kernel_rfl) (by kernel_rfl) (fun _ _ _ h => h) (by rfl) hHeld ?_ ?_
    rotate_left
    · intro wz hSz; obtain ⟨q0, q1, q2, -, -, -⟩ := ky wz hSz; go_simp; try with_reducible rfl
    simp only [Act.put, List.setIfInBounds_toArray, List.set_cons_zero, List.set_cons_succ]
    refine held_take (i := 2) (v := .bool true) rfl (by kernel_rfl) (by kernel_rfl) (by kernel_rfl) (fun _ _ _ h => h) (by rfl) hHeld ?_ ?_
    · intro wz hSz; (go_simp; first | done | rfl | simp [hqi])
    simp only [Act.put, List.setIfInBounds_toArray, List.set_cons_zero, List.set_cons_succ]
    refine held_take (i := 3) (v := ?_) rfl (by kernel_rfl) (by kernel_rfl) (by kernel_rfl) (fun _ _ _ h => h) (by rfl) hHeld ?_ ?_
    rotate_left
    · intro wz hSz; go_simp; try with_reducible rfl
    simp only [Act.put, List.setIfInBounds_toArray, List.set_cons_zero, List.set_cons_succ]
    refine held_take (i := 4) (v := ?_) rfl (by kernel_rfl) (by kernel_rfl) (by kernel_rfl) (fun _ _ _ h => h) (by rfl) hHeld ?_ ?_
    rotate_left
    · intro wz hSz; go_simp; try with_reducible rfl
    simp only [Act.put, List.setIfInBounds_toArray, List.set_cons_zero, List.set_cons_succ]
    refine held_take (i := 6) (v := ?_) rfl (by kernel_rfl) (by kernel_rfl) (by kernel_rfl) (fun _ _ _ h => h) (by rfl) hHeld ?_ ?_
    rotate_left
    · intro wz hSz; go_simp; try with_reducible rfl
    simp only [Act.put, List.setIfInBounds_toArray, List.set_cons_zero, List.set_cons_succ]
    refine held_take (i := 7) (v := ?_) rfl (by kernel_rfl) (by kernel_rfl) (by kernel_rfl) (fun _ _ _ h => h) (by rfl) hHeld ?_ ?_
    rotate_left
    · intro wz hSz; go_simp; try with_reducible rfl
    simp only [Act.put, List.setIfInBounds_toArray, List.set_cons_zero, List.set_cons_succ]
    refine held_take (i := 8) (v := ?_) rfl (by kernel_rfl) (by kernel_rfl) (by kernel_rfl) (fun _ _ _ h => h) (by rfl) hHeld ?_ ?_
    rotate_left
    · intro wz hSz; go_simp; try with_reducible rfl
    simp only [Act.put, List.setIfInBounds_toArray, List.set_cons_zero, List.set_cons_succ]
    refine held_take (i := 9) (v := ?_) rfl (by kernel_rfl) (by kernel_rfl) (by kernel_rfl) (fun _ _ _ h => h) (by rfl) hHeld ?_ ?_
    rotate_left
    · intro wz hSz; have q0 := kb wz hSz; go_simp; try with_reducible rfl
    simp only [Act.put, List.setIfInBounds_toArray, List.set_cons_zero, List.set_cons_succ]
    refine held_take (i := 10) (v := ?_) rfl (by kernel_rfl) (by kernel_rfl) (by kernel_rfl) (fun _ _ _ h => h) (by rfl) hHeld ?_ ?_
    rotate_left
    · intro wz hSz; go_simp; try with_reducible rfl
    simp only [Act.put, List.setIfInBounds_toArray, List.set_cons_zero, List.set_cons_succ]
    refine held_call (i := 5) (by kernel_rfl) rfl (by rfl) (by go_simp; try with_reducible rfl) (cO _ hHeld) ?_
    rintro e wy ⟨rfl, rfl⟩
    refine ⟨_, rfl, hHeld, ?_⟩
    replace hHeld := hHeld
    simp only [Act.put, List.setIfInBounds_toArray, List.set_cons_zero, List.set_cons_succ]
    refine held_take (i := 11) (v := .bool true) rfl (by kernel_rfl) (by kernel_rfl) (by kernel_rfl) (fun _ _ _ h => h) (by rfl) hHeld ?_ ?_
    · intro wz hSz; (go_simp; first | done | rfl | simp)
    simp only [Act.put, List.setIfInBounds_toArray, List.set_cons_zero, List.set_cons_succ]
    refine held_take (i := 12) (v := ?_) rfl (by kernel_rfl) (by kernel_rfl) (by kernel_rfl) (fun _ _ _ h => h) (by rfl) hHeld ?_ ?_
    rotate_left
    · intro wz hSz; go_simp; try with_reducible rfl
    simp only [Act.put, List.setIfInBounds_toArray, List.set_cons_zero, List.set_cons_succ]
    refine held_take (i := 13) (v := ?_) rfl (by kernel_rfl) (by kernel_rfl) (by kernel_rfl) (fun _ _ _ h => h) (by rfl) hHeld ?_ ?_
    rotate_left
    · intro wz hSz; go_simp; try with_reducible rfl
    simp only [Act.put, List.setIfInBounds_toArray, List.set_cons_zero, List.set_cons_succ]
    refine held_take (i := 14) (v := ?_) rfl (by kernel_rfl) (by kernel_rfl) (by kernel_rfl) (fun _ _ _ h => h) (by rfl) hHeld ?_ ?_
    rotate_left
    · intro wz hSz; go_simp; try with_reducible rfl
    simp only [Act.put, List.setIfInBounds_toArray, List.set_cons_zero, List.set_cons_succ]
    refine held_take (i := 16) (v := ?_) rfl (by kernel_rfl) (by kernel_rfl) (by kernel_rfl) (fun _ _ _ h => h) (by rfl) hHeld ?_ ?_
    rotate_left
    · intro wz hSz; go_simp; try with_reducible rfl
    simp only [Act.put, List.setIfInBounds_toArray, List.set_cons_zero, List.set_cons_succ]
    refine held_call (i := 15) (by kernel_rfl) rfl (by rfl) (by go_simp; try with_reducible rfl) (cL _ hHeld) ?_
    rintro e wy ⟨rfl, rfl⟩
    refine ⟨_, rfl, hHeld, ?_⟩
    replace hHeld := hHeld
    simp only [Act.put, List.setIfInBounds_toArray, List.set_cons_zero, List.set_cons_succ]
    refine held_call (i := 17) (by kernel_rfl) rfl (by rfl) (by go_simp; try with_reducible rfl) (cM _ hHeld) ?_
    rintro e wy ⟨rfl, m17, rfl⟩
    refine ⟨_, rfl, below_drewN hHeld m17, ?_⟩
    replace hHeld := below_drewN hHeld m17
    simp only [Act.put, List.setIfInBounds_toArray, List.set_cons_zero, List.set_cons_succ]
    refine held_take (i := 18) (v := .bool true) rfl (by kernel_rfl) (by kernel_rfl) (by kernel_rfl) (fun _ _ _ h => h) (by rfl) hHeld ?_ ?_
    · intro wz hSz; (go_simp; first | done | rfl | simp)
    simp only [Act.put, List.setIfInBounds_toArray, List.set_cons_zero, List.set_cons_succ]
    refine held_take (i := 19) (v := ?_) rfl (by kernel_rfl) (by kernel_rfl) (by kernel_rfl) (fun _ _ _ h => h) (by rfl) hHeld ?_ ?_
    rotate_left
    · intro wz hSz; go_simp; try with_reducible rfl
    simp only [Act.put, List.setIfInBounds_toArray, List.set_cons_zero, List.set_cons_succ]
    refine held_take (i := 20) (v := ?_) rfl (by kernel_rfl) (by kernel_rfl) (by kernel_rfl) (fun _ _ _ h => h) (by rfl) hHeld ?_ ?_
    rotate_left
    · intro wz hSz; go_simp; try with_reducible rfl
    simp only [Act.put, List.setIfInBounds_toArray, List.set_cons_zero, List.set_cons_succ]
    refine held_call (i := 21) (by kernel_rfl) rfl (by rfl) (by go_simp; try with_reducible rfl) (awake_any _ (hE8.later hHeld)) ?_
    rintro e wy ⟨rfl, hy⟩
    refine ⟨_, rfl, below_to hHeld hy, ?_⟩
    replace hHeld := below_to hHeld hy
    simp only [Act.put, List.setIfInBounds_toArray, List.set_cons_zero, List.set_cons_succ]
    refine held_take (i := 22) (v := ?_) rfl (by kernel_rfl) (by kernel_rfl) (by kernel_rfl) (fun _ _ _ h => h) (by rfl) hHeld ?_ ?_
    rotate_left
    · intro wz hSz; go_simp; try with_reducible rfl
    simp only [Act.put, List.setIfInBounds_toArray, List.set_cons_zero, List.set_cons_succ]
    refine held_take (i := 23) (v := ?_) rfl (by kernel_rfl) (by kernel_rfl) (by kernel_rfl) (fun _ _ _ h => h) (by rfl) hHeld ?_ ?_
    rotate_left
    · intro wz hSz; go_simp; try with_reducible rfl
    simp only [Act.put, List.setIfInBounds_toArray, List.set_cons_zero, List.set_cons_succ]
    refine wpAnyH_done (by kernel_rfl) ?_ _
    go_wp2
    go_ret
    exact ⟨rfl, below_to hbw8 hHeld⟩
set_option maxRecDepth 1000000 in
theorem valuebytes_lifted (os : Os) (started : os.Started) (H : Type) (enc : TypeId × Value → H) :
    ReturnsInHanded {} Tryd.checked os 8 .any (fun w args => (Rows.valueBytesSpec.pre enc Tryd.prog Tryd.f8 [] false w args ∧ laidMetH Tryd.prog tabsLaid w) ∧ sizedMet enc Tryd.prog Tryd.f8 (OpenSpec.ofChange Rows.valueBytesSpec) false w args)
      (Rows.valueBytesSpec.post enc Tryd.prog Tryd.f8 false true false false) := by
  refine returnsInHanded_of_change_and (C := Tryd.checked) (X := fun w _ => laidMetH Tryd.prog tabsLaid w) (fun _ _ _ hh h => h.of_heap hh) own started (by kernel_rfl) Tryd.func8
    (ChangeSpec.witness_shaped (enc := enc) (C := Tryd.checked) (os := os) (X := fun w _ => laidMetH Tryd.prog tabsLaid w) false (World.laidAll Tryd.prog os tabsLaid) #[.agg #[.int .i64 0, .int .i64 0, .string ⟨#[]⟩], .slice none 0 0] 8 (World.laidAll_os _ _ _)
      (World.shaped_of_ZipB (by kernel_rfl) (by kernel_rfl)) (by kernel_rfl) (by kernel_rfl) (by kernel_rfl) (start_met os _)) ?_
  intro W base args ds gs before hval0 hW _ hsz0 hL _
  have hsz := hsz0
  have hval : ∀ (j : Nat) t v, Tryd.f8.params[j]? = some t → args[j]? = some v → Value.okWide Tryd.prog W .any base t v := hval0
  have hW' := hW
  obtain ⟨p, q, hA0, hV, rfl, _, _⟩ := hW
  have hA : DataW.TrodAll enc Tryd.prog W 0 (fun _ => true) true Tryd.f8.params.toList args.toList ds p := hA0
  rw [Tryd.params8] at hA hval
  obtain ⟨v0, v1, d0, d1, p0, p1, rfl, rfl, rfl, h0, h1⟩ := trodAll_two hA
  obtain ⟨rfl, rfl⟩ := trodVars_none hV
  obtain ⟨K0, n0, s0, rfl, rfl, T0, a0, b0, e0, f0, z0, rfl⟩ := open_val (hval 0 23 v0 rfl rfl) h0
  have hlt1 : ∀ x ∈ p1, x.block < W.heap.size := fun x hx => hW'.lt x (by simp [hx])
  have h1k := h1
  obtain ⟨A1, L1, c1, rfl, lc1, cm1, B1, N1⟩ := open_bytes Tryd.underlying48 Tryd.underlying5 (by kernel_rfl) (hval 1 48 v1 rfl rfl) h1 (fun elems spare e => by
    subst e
    have := sized_slice hsz (j := 1) (t := 48) (e := 5) rfl rfl Tryd.underlying48
    rwa [show Tryd.checked.prog.bytesOf 5 = 1 by kernel_rfl] at this)
  simp only [List.append_nil] at hW'
  refine (valuebytes_walk K0 n0 s0 A1 L1 c1 W a0 b0 e0 f0 z0 lc1 cm1 B1 N1 (env_of_laid hL)).mono fun e W' ⟨he, hb⟩ => ?_
  subst he
  exact ⟨_, rfl, _, _, _, [], _, [], hW', trodAll_mk1 (shut_bool Tryd.underlying4 _), trodAll_mk2 (T0 _ _) (Below.trod laidOut (by kernel_rfl) (of_decide_eq_true (by kernel_rfl)) h1k hb hlt1), rfl, hb.frame _, fun h => by cases h⟩

theorem valuebytes_holds : Rows.ValueBytesSaid :=
  OpenClaim.holds_of_wide 8 Tryd.f8 rfl rfl rfl rfl rfl rfl rfl ⟨rfl, rfl, rfl, rfl, rfl⟩ rfl rfl rfl rfl rfl (by kernel_rfl) Tryd.func8 (by kernel_rfl)
    (of_decide_eq_true (by kernel_rfl)) (by unfold Func.isWrapper; first | (rw [if_pos (by decide +kernel)]; kernel_rfl) | (rw [if_neg (by decide +kernel)]; exact ⟨rfl, rfl⟩))
    (fun os started H enc _ => valuebytes_lifted os started H enc)

theorem valuebytes_card : Rows.ValueBytesCardSaid :=
  Claim7.holds_tied_plain_at .later [] [.data, .data, .data, .data, .pinned] true _ true
    valuebytes_holds (fun _ h => by cases h) (by kernel_rfl) (fun _ h => by cases h) valueBytes_row_tie rfl ⟨rfl, rfl⟩ (by kernel_rfl) rfl
    (fun f fn hf hfn => by
      obtain rfl : f = 8 := Option.some.inj ((show Tryd.prog.funcNamed "palaver/palaverlaw05.ValueBytes" = some 8 by kernel_rfl).symm.trans hf) |>.symm
      obtain rfl : fn = Tryd.f8 := (Option.some.inj (Tryd.func8.symm.trans hfn)).symm
      exact ⟨by kernel_rfl, fun j t ht => by
        rw [Tryd.params8] at ht
        have hm : t ∈ [23, 48] := by simpa using Array.mem_of_getElem? ht
        have hall : ([23, 48].all fun u => !Tryd.prog.wantsStandIn u) = true := by kernel_rfl
        exact (show Tryd.prog.wantsStandIn t = false by simpa using List.all_eq_true.1 hall t hm)⟩)
    (by kernel_rfl)
end Go.Proofs.YtfcigknalnmhcaaDoor
