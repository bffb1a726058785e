/- The statement FramePuts: any body is put behind any bytes as the document says; the room behind them stays. Conditions: none. -/
import Derived.Test.YtpkbjiakjofcnaaFRefPut
import Derived.Test.YtpkbjiakjofcnaaFHeldIn
import Derived.Test.YtpkbjiakjofcnaaFLaws
import Derived.Deep.AppendLies
namespace Go.Proofs.Ytpkbjiakjofcnaa
open Go.ChangeShapes Go.WideShapes Go.ChangeAt Go.RowKit

theorem onto_first {B : Nat} {w : World} {v : Value} {L : List UInt8} (h : w.ownsRow B 5 1 v (0 + L.length) ([] ++ Lib.byteCells L)) : Onto B w v L := by
  rw [Nat.zero_add, List.nil_append] at h
  exact .inr h
/-- The bytes and one more, in a row of the call's own: its form. -/
theorem own_put {B : Nat} {w : World} {v : Value} {L : List UInt8} (h : w.ownsRow B 5 1 v (L ++ [99]).length (Lib.byteCells (L ++ [99]))) :
    ∃ g cap, v = .slice (some ⟨g, 0, none⟩) (L.length + 1) cap ∧ B ≤ g ∧ L.length + 1 ≤ cap ∧ Hid (Bs w (some ⟨g, 0, none⟩) L ∧ w.cell? ⟨g, L.length, none⟩ = some (.int .u8 99) ∧ g < w.heap.size) := by
  have hl : (L ++ [99]).length = L.length + 1 := by simp
  obtain ⟨A, cap, e, hB⟩ := bs_own h
  rcases h.2 with ⟨_, e2⟩ | ⟨g, c, cur, e1, e2, e3, e4, _⟩
  · omega
  · rw [e] at e1
    injection e1 with e5 e6 e7
    subst e5
    subst e7
    have hlt : g < w.heap.size := by
      rcases Nat.lt_or_ge g w.heap.size with hlt | hge
      · exact hlt
      · rw [Array.getElem?_eq_none hge] at e3; cases e3
    have hB2 := bs_take hB L.length
    rw [List.take_left] at hB2
    obtain ⟨b, off, e8, hc⟩ := hB (by omega)
    injection e8 with e8
    injection e8 with e9 e10
    subst e9
    subst e10
    have hcl := hc L.length (by omega)
    rw [Nat.zero_add] at hcl
    refine ⟨g, cap, by rw [e, hl], e2, by omega, hB2, ?_, hlt⟩
    rw [hcl, List.getD_eq_getElem?_getD, List.getElem?_append_right (Nat.le_refl _), Nat.sub_self]
    rfl

/-- A text made of bytes that lie somewhere, in every later world. -/
theorem str_fact {w5 : World} {A : Option Addr} {L : List UInt8} (cap : Nat) (hB : Bs w5 A L) : ∃ t : ByteArray, Hid (t = ⟨L.toArray⟩) ∧ ∀ w', Below w5.heap.size w5 w' → (convert 22 9 (.slice A L.length cap)).run Try.prog w' = .ok (.string t) w' :=
  ⟨_, Lib.hid rfl, fun w' h => run_str_of (P := Try.prog) (w := w') 22 9 5 cap Try.underlying22 Try.underlying5 Try.underlying9 (hB.below h)⟩

theorem put_add {L M : List UInt8} {tb tx : ByteArray} (hb : tb = ⟨L.toArray⟩) (hx : tx = ⟨(L ++ M).toArray⟩) : tb ++ (⟨M.toArray⟩ : ByteArray) = tx ∧ True := by
  subst hb
  subst hx
  refine ⟨?_, trivial⟩
  rw [ByteArray.mk_append_mk]
theorem run_text_of {w : World} {A : Option Addr} {L : List UInt8} {t : ByteArray} (cap : Nat) (hB : Bs w A L) (h : (⟨L.toArray⟩ : ByteArray) = t) : (convert 22 9 (.slice A L.length cap)).run Try.prog w = .ok (.string t) w := by
  rw [← h]
  exact run_str_of (P := Try.prog) 22 9 5 cap Try.underlying22 Try.underlying5 Try.underlying9 hB

theorem run_load_at (w : World) (ad : Addr) (v : Value) (ev : Operand → Value) (x : Operand) (o : Oper) (ho : o.op = .load 5 x) (ha : ev x = .pointer (some ad)) (k : w.cell? ad = some v) : (execOp ev o).run Try.prog w = .ok (.value v) w := by
  unfold execOp
  rw [ho]
  simp only [ha]
  go_simp


/-- Bytes behind nothing: nothing, or a row of the call's own. -/
theorem wpList_append_first {w : World} {ops : Array Oper} {rest : List Oper} {o : Oper} {a : Act} {Q : Exit → Act → World → Prop} (hgd : o.guard = none) (x : Operand)
    (hop : o.op = .call { callee := .builtin .append, args := #[.const (.slice none 0 0), x], argTypes := #[22, 22] }) (A : Option Addr) (L : List UInt8) (cap : Nat) (hx : a.eval x = .slice A L.length cap) (hB : Bs w A L) (hcap : A = none → cap = 0) (hlc : L.length ≤ cap) (hlen : L.length ≤ 140737488351232)
    (h : ∀ v' w', Onto w.heap.size w' v' L → Below w.heap.size w w' → wpList Try.prog ops Q rest (a.put o.dst v') w') : wpList Try.prog ops Q (o :: rest) a w := by
  obtain ⟨i0, hi, hz0, hz1, hz2⟩ := info_parts (show (Try.prog.info? 5).map (fun i => (i.zero, i.size, i.bytes)) = some (some (.int .u8 0), 1, 1) by kernel_rfl)
  cases A with
  | some ad =>
    refine wpList_append_own _ hgd (.const (.slice none 0 0)) x _ hop w.heap.size 5 i0 _ 1 1 Try.underlying22 hi hz0 hz1 hz2 rfl (by omega) (.slice none 0 0) 0 [] rfl (World.ownsRow_nil _ _ _ _) ad L.length cap (Lib.byteCells L) hx (by rw [Lib.byteCells_length]; omega) (bs_cells hB) (bytes_one L) (by unfold maxLen; omega) (by omega) (Nat.le_refl _) ?_
    intro v1 w1 hown0 hg1 _
    exact h _ _ (onto_first hown0) (below_own (World.ownsRow_nil w w.heap.size 5 1) hg1 (Nat.le_refl _))
  | none =>
    have hL : L = [] := by
      cases L with
      | nil => rfl
      | cons c L => obtain ⟨b, off, e, _⟩ := hB (by simp); cases e
    subst hL
    have hc := hcap rfl
    subst hc
    exact wpList_append_own_none hgd (.const (.slice none 0 0)) x _ hop w.heap.size 5 i0 1 Try.underlying22 hi (.slice none 0 0) 0 [] rfl (World.ownsRow_nil _ _ _ _) hx (h _ _ (Onto.nil w.heap.size w) (Below.refl _ _))

set_option maxHeartbeats 4000000 in
set_option maxRecDepth 100000 in
theorem frameputs_walk (A : Option Addr) (L : List UInt8) (ca : Nat) (B : Option Addr) (M : List UInt8) (cb : Nat) (w : World) (hlc : L.length ≤ ca) (hcm : ca ≤ 140737488351232) (hA : Bs w A L) (hnA : A = none → ca = 0) (hld : M.length ≤ cb) (hcn : cb ≤ 140737488351232) (hB : Bs w B M) (hnB : B = none → cb = 0) :
    Calls Try.prog 3 #[.slice A L.length ca, .slice B M.length cb] w fun e w' => e = .returned (.bool true) ∧ Below w.heap.size w w' := by
  have HA := Lib.hid hA
  have HB := Lib.hid hB
  have HNA := Lib.hid hnA
  have HNB := Lib.hid hnB
  clear hA hB hnA hnB
  obtain ⟨n, hn⟩ : ∃ n, L.length = n := ⟨_, rfl⟩
  obtain ⟨m, hm⟩ : ∃ m, M.length = m := ⟨_, rfl⟩
  have HN := Lib.hid hn
  have HM := Lib.hid hm
  rw [hn] at hlc ⊢
  rw [hm] at hld ⊢
  clear hn hm
  go_enter Try.func3, Try.ntmps3
  go_wp2_with (first | (at_builtin; (refine wpList_append_first rfl (.tmp 8) rfl A L ca (by rw [HN.out]; rfl) HA.out HNA.out (by rw [HN.out]; exact hlc) (by rw [HN.out]; omega) ?_; intro v1 w1 ho1 hb1; have HO1 := Lib.hid ho1; have HB1 := Lib.hid hb1; clear ho1 hb1)) | (at_builtin; (refine wpList_append_onto rfl (.tmp 9) (.tmp 10) rfl w.heap.size v1 L [99] rfl (HO1.out.alloc _) ⟨w1.heap.size, 0, none⟩ 1 rfl (bs_new _ 99 _ _) (Nat.le_refl 1) (by rw [HN.out]; simp <;> omega) (by have := HB1.out.size; simp <;> omega) ?_; intro v2 w2 ho2 hb2; obtain ⟨gc, cap2, rfl, hgc, hcap2, ho3⟩ := own_put ho2; rw [HN.out] at hcap2 ho3 ⊢; clear ho2)))
  have HB2 := Lib.hid ((HB1.out.alloc HB1.out.size (.cells #[.int .u8 99] 5)).trans hb2)
  have HBc := Lib.hid ho3.out.1
  have H99 := Lib.hid ho3.out.2.1
  have hgs := ho3.out.2.2
  have cb1 := bytes_any B M cb w2 (by rw [HM.out]; omega) (HB.out.below HB2.out) HNB.out
  rw [HM.out] at cb1
  clear hb2 HO1 HB1 ho3
  go_wp2_with fail
  (with_reducible refine cb1.mono ?_)
  rintro e w3 ⟨A3, cap3, rfl, hB3, _, hown3, hb3⟩
  rw [HM.out]
  have HB3 := Lib.hid (HB2.out.trans (hb3.mono HB2.out.size))
  have hc3 := HBc.out.below hb3
  have HA3 := Lib.hid (HA.out.below HB3.out)
  have h99 := (hb3.cell hgs).trans H99.out
  have hg3 : gc < w3.heap.size := Nat.lt_of_lt_of_le hgs hb3.size
  have hsz : (m < 1 ∨ (1 ≤ m ∧ 1048576 < m)) ∨ (1 ≤ m ∧ m ≤ 1048576) := by omega
  rcases hsz with hsz | ⟨hm1, hm2⟩
  · have cp := put_no (some ⟨gc, 0, none⟩) A3 L M cap2 cap3 w3 (by rw [HN.out]; omega) (fun h => by have h1 := h.1; have h2 := h.2; rw [HM.out] at h1 h2; omega) (by rw [HM.out]; omega) hc3 (fun h => by cases h)
    rw [HN.out, HM.out] at cp
    clear cb1 hB3 hown3 hb3 hc3 h99 hg3 hgs H99 HBc HB2 HB HNA HNB
    go_wp2_with fail
    (with_reducible refine cp.mono ?_)
    rintro e w4 ⟨A4, cap4, rfl, hB4, _, _, hb4⟩
    have k1 := run_str_of (P := Try.prog) (w := w4) 22 9 5 cap4 Try.underlying22 Try.underlying5 Try.underlying9 hB4
    have k2 := run_str_of (P := Try.prog) (w := w4) 22 9 5 ca Try.underlying22 Try.underlying5 Try.underlying9 (HA3.out.below hb4)
    have HB4 := Lib.hid (HB3.out.trans (hb4.mono HB3.out.size))
    have haw := awake_any w4
    rw [HN.out] at k1 k2 ⊢
    clear cp hB4 hb4 HA3 HA
    generalize (⟨L.toArray⟩ : ByteArray) = txt at *
    rcases hsz with hsz | ⟨hs1, hs2⟩
    all_goals
      go_wp2_with fail
      (with_reducible refine haw.mono ?_)
      rintro e w5 ⟨rfl, hb5⟩
      go_wp2
      go_ret
      exact ⟨rfl, HB4.out.trans (hb5.mono HB4.out.size)⟩
  · have hok : okF M := ⟨by rw [HM.out]; exact hm1, by rw [HM.out]; exact hm2⟩
    have cp := put_yes (some ⟨gc, 0, none⟩) A3 L M cap2 cap3 w3 (by rw [HN.out]; omega) hok hc3 hB3
    have cR := fun (wz : World) (h : Bs wz B M) => refput_any B M cb wz hok.1 hok.2 h
    have hpn : (putF M).length ≤ 1048576 + 20 := by
      have h1 := putF_len M
      have h2 := putI_ten (v := (M.length : Int)) (by rw [HM.out]; omega) (by rw [HM.out]; omega)
      rw [HM.out] at h1 h2
      omega
    obtain ⟨p, hp⟩ : ∃ p, (putF M).length = p := ⟨_, rfl⟩
    have hxl : (L ++ putF M).length = n + p := by rw [List.length_append, HN.out, hp]
    have HPL := Lib.hid hp
    have HXL := Lib.hid hxl
    rw [HN.out, HM.out] at cp
    have cR2 := fun (wz : World) (h : Bs wz B M) => by have k := cR wz h; rw [HM.out] at k; exact k
    rw [hp] at hpn
    clear cb1 hB3 hown3 hb3 hc3 hgs H99 HBc HNA HNB cR hp hxl hok
    go_wp2_with fail
    (with_reducible refine cp.mono ?_)
    rintro e w4 ⟨A4, cap4, rfl, hB4, _, _, hb4⟩
    have HB4 := Lib.hid (HB3.out.trans (hb4.mono HB3.out.size))
    obtain ⟨tx, HTX, ex⟩ := str_fact cap4 hB4
    obtain ⟨tb, HTB, eb⟩ := str_fact ca (HA3.out.below hb4)
    obtain ⟨hxi, _⟩ := put_add (M := putF M) HTB.out HTX.out
    have htb : tb.size = n := by rw [HTB.out, ← HN.out]; simp [ByteArray.size]
    have htm : (⟨(putF M).toArray⟩ : ByteArray).size = p := by rw [← HPL.out]; simp [ByteArray.size]
    obtain ⟨tm, htm2⟩ : ∃ tm, (⟨(putF M).toArray⟩ : ByteArray) = tm := ⟨_, rfl⟩
    rw [htm2] at htm hxi
    have HTM := Lib.hid htm2
    have HBW := Lib.hid (HB.out.below HB4.out)
    have cR := fun (wz : World) (h : Below w4.heap.size w4 wz) => cR2 wz (HBW.out.below h)
    have HE99 := Lib.hid (fun wz (h : Below w4.heap.size w4 wz) => (h.cell (p := ⟨gc, n, none⟩) (Nat.lt_of_lt_of_le hg3 hb4.size)).trans ((hb4.cell (p := ⟨gc, n, none⟩) hg3).trans h99))
    have hxs : ¬ 9223372036854775807 < tb.size + tm.size := by omega
    rw [HXL.out] at ex ⊢
    rw [HN.out] at eb
    clear cp hB4 hb4 HA3 HA HB HB2 HB3 HBW htm2 htb htm cR2 h99 hg3
    go_wp2_with fail
    have hi1 : IntKind.i64.wrap ((n : Int) + 1) = (n : Int) + 1 := IntWalk.i64_in _ (by omega)
    have hi2 : (n : Int) + 1 ≤ (cap2 : Int) := by omega
    have hi3 : (0 : Int) ≤ (n : Int) + 1 := by omega
    have hi4 : ((n : Int) + 1).toNat = n + 1 := by omega
    have hi5 : (n : Int) < (n : Int) + 1 := by omega
    have hi6 : (0 : Int) ≤ (n : Int) := by omega
    refine wp_region_held_drew (S := fun w' => Below w4.heap.size w4 w') (by kernel_rfl) ((Below.refl _ _).drew) (fun hHeld => ?_)
    refine held_take (i := 0) (v := ?_) rfl (by kernel_rfl) (by kernel_rfl) (by kernel_rfl) (fun _ _ _ h => h) (by rfl) hHeld ?_ ?_
    rotate_left
    · intro wz hSz; go_simp; try with_reducible rfl
    simp only [Act.put, List.setIfInBounds_toArray, List.set_cons_zero, List.set_cons_succ]
    refine held_take (i := 1) (v := ?_) rfl (by kernel_rfl) (by kernel_rfl) (by kernel_rfl) (fun _ _ _ h => h) (by rfl) hHeld ?_ ?_
    rotate_left
    · intro wz hSz; go_simp; try with_reducible rfl
    simp only [Act.put, List.setIfInBounds_toArray, List.set_cons_zero, List.set_cons_succ]
    refine held_take (i := 2) (v := ?_) rfl (by kernel_rfl) (by kernel_rfl) (by kernel_rfl) (fun _ _ _ h => h) (by rfl) hHeld ?_ ?_
    rotate_left
    · intro wz hSz; go_simp; try with_reducible rfl
    simp only [Act.put, List.setIfInBounds_toArray, List.set_cons_zero, List.set_cons_succ]
    refine held_take (i := 3) (v := ?_) rfl (by kernel_rfl) (by kernel_rfl) (by kernel_rfl) (fun _ _ _ h => h) (by rfl) hHeld ?_ ?_
    rotate_left
    · intro wz hSz; go_simp; try with_reducible rfl
    simp only [Act.put, List.setIfInBounds_toArray, List.set_cons_zero, List.set_cons_succ]
    refine held_take (i := 4) (v := ?_) rfl (by kernel_rfl) (by kernel_rfl) (by kernel_rfl) (fun _ _ _ h => h) (by rfl) hHeld ?_ ?_
    rotate_left
    · intro wz hSz; have k := ex wz hSz; go_simp; try with_reducible rfl
    simp only [Act.put, List.setIfInBounds_toArray, List.set_cons_zero, List.set_cons_succ]
    refine held_take (i := 5) (v := ?_) rfl (by kernel_rfl) (by kernel_rfl) (by kernel_rfl) (fun _ _ _ h => h) (by rfl) hHeld ?_ ?_
    rotate_left
    · intro wz hSz; go_simp; try with_reducible rfl
    simp only [Act.put, List.setIfInBounds_toArray, List.set_cons_zero, List.set_cons_succ]
    refine held_take (i := 6) (v := ?_) rfl (by kernel_rfl) (by kernel_rfl) (by kernel_rfl) (fun _ _ _ h => h) (by rfl) hHeld ?_ ?_
    rotate_left
    · intro wz hSz; have k := eb wz hSz; go_simp; try with_reducible rfl
    simp only [Act.put, List.setIfInBounds_toArray, List.set_cons_zero, List.set_cons_succ]
    refine held_take (i := 7) (v := ?_) rfl (by kernel_rfl) (by kernel_rfl) (by kernel_rfl) (fun _ _ _ h => h) (by rfl) hHeld ?_ ?_
    rotate_left
    · intro wz hSz; go_simp; try with_reducible rfl
    simp only [Act.put, List.setIfInBounds_toArray, List.set_cons_zero, List.set_cons_succ]
    refine held_call (i := 8) (by kernel_rfl) rfl (by rfl) (by go_simp; try with_reducible rfl) (cR _ hHeld) ?_
    rintro e w6 ⟨Ai, ci, rfl, hBi, _, _, hq6⟩
    have ki := run_text_of ci hBi HTM.out
    rw [HPL.out] at ki ⊢
    refine ⟨_, rfl, hHeld.trans (hq6.mono hHeld.size), ?_⟩
    replace hHeld := hHeld.trans (hq6.mono hHeld.size)
    clear hBi hq6
    simp only [Act.put, List.setIfInBounds_toArray, List.set_cons_zero, List.set_cons_succ]
    refine held_read (i := 9) (v := ?_) (by kernel_rfl) rfl (by rfl) hHeld ?_ ?_
    rotate_left
    · go_simp; try with_reducible rfl
    simp only [Act.put, List.setIfInBounds_toArray, List.set_cons_zero, List.set_cons_succ]
    refine held_take (i := 10) (v := ?_) rfl (by kernel_rfl) (by kernel_rfl) (by kernel_rfl) (fun _ _ _ h => h) (by rfl) hHeld ?_ ?_
    rotate_left
    · intro wz hSz; go_simp; try with_reducible rfl
    simp only [Act.put, List.setIfInBounds_toArray, List.set_cons_zero, List.set_cons_succ]
    refine held_take (i := 11) (v := ?_) rfl (by kernel_rfl) (by kernel_rfl) (by kernel_rfl) (fun _ _ _ h => h) (by rfl) hHeld ?_ ?_
    rotate_left
    · intro wz hSz; go_simp; try with_reducible rfl
    simp only [Act.put, List.setIfInBounds_toArray, List.set_cons_zero, List.set_cons_succ]
    refine held_take (i := 12) (v := ?_) rfl (by kernel_rfl) (by kernel_rfl) (by kernel_rfl) (fun _ _ _ h => h) (by rfl) hHeld ?_ ?_
    rotate_left
    · intro wz hSz; go_simp; try with_reducible rfl
    simp only [Act.put, List.setIfInBounds_toArray, List.set_cons_zero, List.set_cons_succ]
    refine held_take (i := 13) (v := ?_) rfl (by kernel_rfl) (by kernel_rfl) (by kernel_rfl) (fun _ _ _ h => h) (by rfl) hHeld ?_ ?_
    rotate_left
    · intro wz hSz; go_simp; try with_reducible rfl
    simp only [Act.put, List.setIfInBounds_toArray, List.set_cons_zero, List.set_cons_succ]
    refine held_take (i := 14) (v := ?_) rfl (by kernel_rfl) (by kernel_rfl) (by kernel_rfl) (fun _ _ _ h => h) (by rfl) hHeld ?_ ?_
    rotate_left
    · intro wz hSz; go_simp; try with_reducible rfl
    simp only [Act.put, List.setIfInBounds_toArray, List.set_cons_zero, List.set_cons_succ]
    refine held_take (i := 15) (v := ?_) rfl (by kernel_rfl) (by kernel_rfl) (by kernel_rfl) (fun _ _ _ h => h) (by rfl) hHeld ?_ ?_
    rotate_left
    · intro wz hSz; go_simp; try with_reducible rfl
    simp only [Act.put, List.setIfInBounds_toArray, List.set_cons_zero, List.set_cons_succ]
    refine held_take (i := 16) (v := ?_) rfl (by kernel_rfl) (by kernel_rfl) (by kernel_rfl) (fun _ _ _ h => h) (by rfl) hHeld ?_ ?_
    rotate_left
    · intro wz hSz; go_simp; try with_reducible rfl
    simp only [Act.put, List.setIfInBounds_toArray, List.set_cons_zero, List.set_cons_succ]
    refine held_take (i := 17) (v := ?_) rfl (by kernel_rfl) (by kernel_rfl) (by kernel_rfl) (fun _ _ _ h => h) (by rfl) hHeld ?_ ?_
    rotate_left
    · intro wz hSz; go_simp; try with_reducible rfl
    simp only [Act.put, List.setIfInBounds_toArray, List.set_cons_zero, List.set_cons_succ]
    refine held_take (i := 18) (v := ?_) rfl (by kernel_rfl) (by kernel_rfl) (by kernel_rfl) (fun _ _ _ h => h) (by rfl) hHeld ?_ ?_
    rotate_left
    · intro wz hSz; go_simp; try with_reducible rfl
    simp only [Act.put, List.setIfInBounds_toArray, List.set_cons_zero, List.set_cons_succ]
    refine held_take (i := 19) (v := ?_) rfl (by kernel_rfl) (by kernel_rfl) (by kernel_rfl) (fun _ _ _ h => h) (by rfl) hHeld ?_ ?_
    rotate_left
    · intro wz hSz; go_simp; try with_reducible rfl
    simp only [Act.put, List.setIfInBounds_toArray, List.set_cons_zero, List.set_cons_succ]
    refine held_take (i := 20) (v := ?_) rfl (by kernel_rfl) (by kernel_rfl) (by kernel_rfl) (fun _ _ _ h => h) (by rfl) hHeld ?_ ?_
    rotate_left
    · intro wz hSz; go_simp; try with_reducible rfl
    simp only [Act.put, List.setIfInBounds_toArray, List.set_cons_zero, List.set_cons_succ]
    refine held_take (i := 21) (v := ?_) rfl (by kernel_rfl) (by kernel_rfl) (by kernel_rfl) (fun _ _ _ h => h) (by rfl) hHeld ?_ ?_
    rotate_left
    · intro wz hSz; go_simp; try with_reducible rfl
    simp only [Act.put, List.setIfInBounds_toArray, List.set_cons_zero, List.set_cons_succ]
    refine held_take (i := 22) (v := .int .u8 99) rfl (by kernel_rfl) (by kernel_rfl) (by kernel_rfl) (fun _ _ _ h => h) (by rfl) hHeld ?_ ?_
    · intro wz hSz; exact run_load_at wz _ _ _ _ _ rfl rfl (HE99.out wz hSz)
    simp only [Act.put, List.setIfInBounds_toArray, List.set_cons_zero, List.set_cons_succ]
    refine held_take (i := 23) (v := ?_) rfl (by kernel_rfl) (by kernel_rfl) (by kernel_rfl) (fun _ _ _ h => h) (by rfl) hHeld ?_ ?_
    rotate_left
    · intro wz hSz; go_simp; try with_reducible rfl
    simp only [Act.put, List.setIfInBounds_toArray, List.set_cons_zero, List.set_cons_succ]
    refine held_take (i := 24) (v := ?_) rfl (by kernel_rfl) (by kernel_rfl) (by kernel_rfl) (fun _ _ _ h => h) (by rfl) hHeld ?_ ?_
    rotate_left
    · intro wz hSz; go_simp; try with_reducible rfl
    simp only [Act.put, List.setIfInBounds_toArray, List.set_cons_zero, List.set_cons_succ]
    refine held_take (i := 25) (v := ?_) rfl (by kernel_rfl) (by kernel_rfl) (by kernel_rfl) (fun _ _ _ h => h) (by rfl) hHeld ?_ ?_
    rotate_left
    · intro wz hSz; go_simp; try with_reducible rfl
    simp only [Act.put, List.setIfInBounds_toArray, List.set_cons_zero, List.set_cons_succ]
    refine held_call (i := 26) (by kernel_rfl) rfl (by rfl) (by go_simp; try with_reducible rfl) (awake_any _) ?_
    rintro e w9 ⟨rfl, hq9⟩
    refine ⟨_, rfl, hHeld.trans (hq9.mono hHeld.size), ?_⟩
    replace hHeld := hHeld.trans (hq9.mono hHeld.size)
    clear hq9
    simp only [Act.put, List.setIfInBounds_toArray, List.set_cons_zero, List.set_cons_succ]
    refine held_take (i := 27) (v := ?_) rfl (by kernel_rfl) (by kernel_rfl) (by kernel_rfl) (fun _ _ _ h => h) (by rfl) hHeld ?_ ?_
    rotate_left
    · intro wz hSz; go_simp; try with_reducible rfl
    simp only [Act.put, List.setIfInBounds_toArray, List.set_cons_zero, List.set_cons_succ]
    refine held_take (i := 28) (v := ?_) rfl (by kernel_rfl) (by kernel_rfl) (by kernel_rfl) (fun _ _ _ h => h) (by rfl) hHeld ?_ ?_
    rotate_left
    · intro wz hSz; go_simp; try with_reducible rfl
    simp only [Act.put, List.setIfInBounds_toArray, List.set_cons_zero, List.set_cons_succ]
    refine wpAnyH_done (by kernel_rfl) ?_ _
    go_wp2
    go_ret
    exact ⟨rfl, HB4.out.trans (hHeld.mono HB4.out.size)⟩
set_option maxRecDepth 100000 in
theorem frameputs_lifted (os : Os) (started : os.Started) (H : Type) (enc : TypeId × Value → H) :
    ReturnsInHanded {} Try.checked os 3 .any (Rows.framePutsSpec.pre6 enc Try.prog Try.f3 Rows.framePutsRow.domain false) (Rows.framePutsSpec.post enc Try.prog Try.f3 false true false false) := by
  refine returnsInHanded_of_change_sized (C := Try.checked) own started (by kernel_rfl) Try.func3
    (ChangeSpec.witness6 (enc := enc) (C := Try.checked) false ⟨#[], #[.slice none 0 0, .slice none 0 0], []⟩ 8 (by kernel_rfl) (by kernel_rfl) (by kernel_rfl) (by kernel_rfl)) ?_
  intro W base args ds gs before hval0 hW _ hsz0 _
  have hsz : (DataW.weightsEach Try.prog (Try.f3.params.toList ++ Rows.framePutsSpec.plain.varTypes Try.prog) (ds ++ gs)).all (· ≤ reachBytes) = true := hsz0
  have hval : ∀ (j : Nat) t v, Try.f3.params[j]? = some t → args[j]? = some v → Value.okWide Try.prog W .any base t v := hval0
  have hW' := hW
  obtain ⟨p, q, hA0, hV, rfl, _, _⟩ := hW
  have hA : DataW.TrodAll enc Try.prog W 0 (fun _ => true) true Try.f3.params.toList args.toList ds p := hA0
  rw [Try.params3] at hA hval hsz
  obtain ⟨v0, v1, d0, d1, p0, p1, rfl, rfl, rfl, h0, h1⟩ := trodAll_two hA
  obtain ⟨rfl, rfl⟩ := trodVars_none hV
  simp only [List.append_nil] at hW'
  have hlt0 : ∀ x ∈ p0, x.block < W.heap.size := fun x hx => hW'.lt x (by simp [hx])
  have h0k := h0
  obtain ⟨A0, L0, c0, rfl, lc0, cm0, B0, N0⟩ := open_bytes Try.underlying22 Try.underlying5 (by kernel_rfl) (hval 0 22 v0 rfl rfl) h0 (fun elems spare e => by
    subst e
    have := sized_slice hsz (j := 0) (t := 22) (e := 5) rfl rfl Try.underlying22
    rwa [show Try.prog.bytesOf 5 = 1 by kernel_rfl] at this)
  have hlt1 : ∀ x ∈ p1, x.block < W.heap.size := fun x hx => hW'.lt x (by simp [hx])
  have h1k := h1
  obtain ⟨A1, L1, c1, rfl, lc1, cm1, B1, N1⟩ := open_bytes Try.underlying22 Try.underlying5 (by kernel_rfl) (hval 1 22 v1 rfl rfl) h1 (fun elems spare e => by
    subst e
    have := sized_slice hsz (j := 1) (t := 22) (e := 5) rfl rfl Try.underlying22
    rwa [show Try.prog.bytesOf 5 = 1 by kernel_rfl] at this)
  refine (frameputs_walk A0 L0 c0 A1 L1 c1 W lc0 cm0 B0 N0 lc1 cm1 B1 N1).mono fun e W' ⟨he, hb⟩ => ?_
  subst he
  exact ⟨_, rfl, _, _, _, [], _, [], hW', trodAll_mk1 (shut_bool Try.underlying4 _), trodAll_mk2 (Below.trod laidOut (by kernel_rfl) (of_decide_eq_true (by kernel_rfl)) h0k hb hlt0) (Below.trod laidOut (by kernel_rfl) (of_decide_eq_true (by kernel_rfl)) h1k hb hlt1), rfl, hb.frame _, fun h => by cases h⟩

theorem frameputs_holds : Rows.FramePutsSaid :=
  OpenClaim.holds_of_wide 3 Try.f3 rfl rfl rfl rfl rfl rfl rfl ⟨rfl, rfl, rfl, rfl, rfl⟩ rfl rfl rfl rfl rfl (by kernel_rfl) Try.func3 (by kernel_rfl)
    (of_decide_eq_true (by kernel_rfl)) (by unfold Func.isWrapper; first | (rw [if_pos (by decide +kernel)]; kernel_rfl) | (rw [if_neg (by decide +kernel)]; exact ⟨rfl, rfl⟩))
    (fun os started H enc _ => frameputs_lifted os started H enc)
end Go.Proofs.Ytpkbjiakjofcnaa
