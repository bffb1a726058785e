/- The statement EvalTyped: what has a type comes to nothing, to what is bad, or to a value of that type. Conditions: none but what the card ties (the library's variables, and the table of forms, hold what their texts lay). -/
import Derived.Test.YtaaibciacipelaaGreatDoorHB
import Derived.Test.YtaaibciacipelaaGreatDoorGE
import Derived.Test.YtaaibciacipelaaGreatDoorMFew9
import Derived.Test.YtaaibciacipelaaGreatDoorMKitE
import Derived.Test.YtaaibciacipelaaGreatDoorMTyRT
import Derived.Test.YtaaibciacipelaaGreatDoorGW
import Derived.Test.YtaaibciacipelaaGreatDoorMEvTy
namespace Go.Proofs.YtaaibciacipelaaGreatDoor
open Go.RowKit

mutual
theorem typE_ne (N : List ByteArray) (Z : List Int) : ∀ (e : Ex) (x : Int), typE N Z e = .error x → x ≠ 0
  | .mk op n s ks, x, h => by
    by_cases h4 : op = 4
    · subst h4
      rw [typE_name] at h
      split at h
      · injection h with h; omega
      · cases h
    · rw [typE, if_neg h4] at h
      cases hL : typL N Z ks with
      | error y => rw [hL] at h; injection h with h; subst h; exact typL_ne N Z ks _ hL
      | ok ts =>
        rw [hL] at h
        dsimp only at h
        split at h
        · injection h with h; omega
        · cases h
theorem typL_ne (N : List ByteArray) (Z : List Int) : ∀ (es : List Ex) (x : Int), typL N Z es = .error x → x ≠ 0
  | [], x, h => by rw [typL] at h; cases h
  | e :: es, x, h => by
    rw [typL] at h
    cases he : typE N Z e with
    | error y => rw [he] at h; injection h with h; subst h; exact typE_ne N Z e _ he
    | ok t =>
      rw [he] at h
      dsimp only at h
      cases hs : typL N Z es with
      | error y => rw [hs] at h; injection h with h; subst h; exact typL_ne N Z es _ hs
      | ok us => rw [hs] at h; cases h
end
theorem of_zero {N : List ByteArray} {Z : List Int} {e : Ex} (h : tyF (ofE N Z e) = 0) : chkB e = true ∧ typE N Z e = .ok (tyN (ofE N Z e)) := by
  unfold ofE at h ⊢
  by_cases hc : chkB e = true
  · rw [if_pos hc] at h ⊢
    refine ⟨hc, ?_⟩
    cases ht : typE N Z e with
    | error x => rw [ht] at h; exact absurd h (typE_ne N Z e x ht)
    | ok t => rfl
  · rw [if_neg hc] at h
    exact absurd h (by decide)
theorem fits_kind {v : Va} {z : Int} (h : fitsB v.k v.n v.s z = true) : v.k = 0 ∨ v.k = z := by
  unfold fitsB at h
  simp only [Bool.and_eq_true, Bool.or_eq_true, beq_iff_eq] at h
  exact h.2
/-- While the values are held against the types. -/
def KFit (w wr : World) (V : List Va) (Z : List Int) (k : Nat) : Prop := Below w.heap.size w wr ∧ ∀ (j : Nat) v z, j < k → V[j]? = some v → Z[j]? = some z → fitsB v.k v.n v.s z = true
set_option maxHeartbeats 16000000 in
set_option maxRecDepth 1000000 in
theorem evaltyped_walk (v0 : Value) (e : Ex) (A : Option Addr) (L : List ByteArray) (cA : Nat) (C : Option Addr) (Z : List Int) (cC : Nat) (B : Option Addr) (V : List Va) (cB : Nat) (w : World) (he : ExIn w (fun _ => True) e v0)
    (_lA : L.length ≤ cA) (mA : L.length ≤ 140737488351232) (hN : Ts w A L) (_qA : A = none → cA = 0) (_lC : Z.length ≤ cC) (mC : cC ≤ 17592186044416) (hZ : Is w C Z) (_bZ : ∀ z ∈ Z, -9223372036854775808 ≤ z ∧ z ≤ 9223372036854775807) (_qC : C = none → cC = 0)
    (_lB : V.length ≤ cB) (mB : V.length ≤ 4398046511104) (hV : Vs w B V) (hx : ∀ x ∈ V, In64 x.k ∧ In64 x.n ∧ x.s.length ≤ reachBytes) (_qB : B = none → cB = 0) (hE0 : EnvP w) :
    Calls Tryz.prog 4 #[v0, .slice A L.length cA, .slice C Z.length cC, .slice B V.length cB] w fun en w' => en = .returned (.bool true) ∧ Below w.heap.size w w' := by
  have hK : Knows w L V A B := ⟨hN, hV, hE0.env.tabs, by omega, by omega, fun v hv => by have := (hx v hv).2.2; unfold reachBytes at this; omega, fun v hv => (hx v hv).2.1⟩
  obtain ⟨ao, cap, rfl, -⟩ := he.get
  have d1 := below_alloc w (.cells #[.int .i64 e.op, .int .i64 e.num, .string ⟨e.str.toArray⟩, .slice ao e.kids.length cap] 24)
  have x1 := four_new w (.int .i64 e.op) (.int .i64 e.num) (.string ⟨e.str.toArray⟩) (.slice ao e.kids.length cap) 24
  have h0 := he.later d1
  have hk := hK.later d1
  have hz := hZ.below d1
  have hE2 := hE0.later d1
  obtain ⟨w0, hw0⟩ : ∃ x, w.alloc (.cells #[.int .i64 e.op, .int .i64 e.num, .string ⟨e.str.toArray⟩, .slice ao e.kids.length cap] 24) = x := ⟨_, rfl⟩
  rw [hw0] at x1 d1 h0 hk hz hE2
  have HX0 := Lib.hid x1
  have HV0 := Lib.hid h0
  have HK := Lib.hid hk
  have HZ := Lib.hid hz
  have HEE := Lib.hid hE2
  have HB0 := Lib.hid d1
  have HLZ := Lib.hid (show Z.length ≤ 4611686018427387904 by omega)
  obtain ⟨-, y0, y1, y2, y3, -⟩ := x1
  clear d1 h0 hk hz hE2 hE0 he hN hV hK mA hx _lA _qA _lB _qB _lC mC _bZ _qC hZ
  go_enter Tryz.func4, Tryz.ntmps4
  go_wp2_with fail
  (with_reducible refine (tinyE_any e _ _ w0 HV0.out).mono ?_)
  rintro en w1 ⟨b, rfl, d, hb⟩
  have B1 := Lib.hid d
  have HND := Lib.hid hb
  clear d y0 y1 y2 y3 hw0 hb
  cases b with
  | false =>
    have caw := evawake_any w1 (HEE.out.later B1.out)
    go_wp2_with fail
    (with_reducible refine caw.mono ?_)
    rintro en wz ⟨rfl, bz⟩
    have HBF := Lib.hid (below_to (below_to HB0.out B1.out) bz)
    clear bz caw
    go_wp2_with fail
    go_ret
    exact ⟨rfl, HBF.out⟩
  | true =>
    have cc := few9_any L V A B cA cB w1 (HK.out.later B1.out).vals
    go_wp2_with fail
    (with_reducible refine cc.mono ?_)
    rintro en w5 ⟨⟨b, rfl, hb⟩, rfl⟩
    have HF := Lib.hid hb
    clear cc hb
    cases b with
    | false =>
      have caw := evawake_any w1 (HEE.out.later B1.out)
      go_wp2_with fail
      (with_reducible refine caw.mono ?_)
      rintro en wz ⟨rfl, bz⟩
      have HBF := Lib.hid (below_to (below_to HB0.out B1.out) bz)
      clear bz caw
      go_wp2_with fail
      go_ret
      exact ⟨rfl, HBF.out⟩
    | true =>
      by_cases hzl : Z.length = L.length
      case neg =>
        have hzb : ((Z.length : Int) != (L.length : Int)) = true := by simp; omega
        have hzn : ¬ (Z.length : Int) = (L.length : Int) := by omega
        have caw := evawake_any w1 (HEE.out.later B1.out)
        clear hzl
        go_wp2_with fail
        (with_reducible refine caw.mono ?_)
        rintro en wz ⟨rfl, bz⟩
        have HBF := Lib.hid (below_to (below_to HB0.out B1.out) bz)
        clear bz caw
        go_wp2_with fail
        go_ret
        exact ⟨rfl, HBF.out⟩
      case pos =>
        have hzb : ((Z.length : Int) != (L.length : Int)) = false := by simp; omega
        have HZL := Lib.hid hzl
        clear hzl
        by_cases hvl : V.length = L.length
        case neg =>
          have hvb : ((V.length : Int) != (L.length : Int)) = true := by simp; omega
          have hvn : ¬ (V.length : Int) = (L.length : Int) := by omega
          have caw := evawake_any w1 (HEE.out.later B1.out)
          clear hvl
          go_wp2_with fail
          (with_reducible refine caw.mono ?_)
          rintro en wz ⟨rfl, bz⟩
          have HBF := Lib.hid (below_to (below_to HB0.out B1.out) bz)
          clear bz caw
          go_wp2_with fail
          go_ret
          exact ⟨rfl, HBF.out⟩
        case pos =>
          have hvb : ((V.length : Int) != (L.length : Int)) = false := by simp; omega
          have HVL := Lib.hid hvl
          clear hvl
          go_wp2_with fail
          clear hvb hzb
          go_loopg [9] (V.length) (fun a si wr => ∃ k : Nat, k + a = V.length ∧ si = .int .i64 (k : Int) ∧ Hid (KFit w1 wr V Z k))
          case atStart => exact ⟨0, by omega, rfl, Lib.hid ⟨Below.refl _ _, fun j v z hj => absurd hj (by omega)⟩⟩
          case round =>
            obtain ⟨k, hka, rfl, HW⟩ := hrel
            have HKA := Lib.hid hka
            have HBR := Lib.hid (below_to B1.out HW.out.1)
            by_cases hk : k < V.length
            · have hkz : (k : Int) < (V.length : Int) := by omega
              have hkl : k < Z.length := by have := HZL.out; have := HVL.out; omega
              have hklz : (k : Int) < (Z.length : Int) := by omega
              have hk0 : (0 : Int) ≤ (k : Int) := by omega
              obtain ⟨gv, ov, rfl, hcv⟩ := (HK.out.later HBR.out).vals (by omega)
              obtain ⟨gz, oz, rfl, hcz⟩ := (HZ.out.below HBR.out) (by omega)
              obtain ⟨a, ha⟩ : ∃ a, V[k]? = some a := ⟨_, List.getElem?_eq_getElem hk⟩
              have hcv := hcv k a ha
              have hcz := hcz k hkl
              obtain ⟨z, hzz⟩ : ∃ z, Z[k]? = some z := ⟨_, List.getElem?_eq_getElem hkl⟩
              rw [List.getD_eq_getElem?_getD, hzz] at hcz
              have hcz : wr.cell? ⟨gz, oz + k, none⟩ = some (.int .i64 z) := hcz
              have HCV : Hid (∀ wz, Below wr.heap.size wr wz → wz.cell? ⟨gv, ov + k * 3, none⟩ = some (.int .i64 a.k) ∧ wz.cell? ⟨gv, ov + k * 3 + 1, none⟩ = some (.int .i64 a.n) ∧ wz.cell? ⟨gv, ov + k * 3 + 2, none⟩ = some (.string ⟨a.s.toArray⟩)) := Lib.hid (fun wz hb => by
                have hg := World.block_lt_of_cell? wr _ hcv.1
                exact ⟨(hb.cell (p := ⟨gv, ov + k * 3, none⟩) hg).trans hcv.1, (hb.cell (p := ⟨gv, ov + k * 3 + 1, none⟩) hg).trans hcv.2.1, (hb.cell (p := ⟨gv, ov + k * 3 + 2, none⟩) hg).trans hcv.2.2⟩)
              have HCZ : Hid (∀ wz, Below wr.heap.size wr wz → wz.cell? ⟨gz, oz + k, none⟩ = some (.int .i64 z)) := Lib.hid (fun wz hb => (hb.cell (p := ⟨gz, oz + k, none⟩) (World.block_lt_of_cell? wr _ hcz)).trans hcz)
              have HAK := Lib.hid ha
              have HZK := Lib.hid hzz
              have cf := fun wz => refFits_any a.k a.n ⟨a.s.toArray⟩ z wz
              simp only at cf
              clear hcv hcz ha hzz hka
              cases hfb : fitsB a.k a.n a.s z with
              | false =>
                simp only [hfb] at cf
                clear hfb
                go_wp2_with fail
                refine wp_region_held_drew (S := fun w' => Below wr.heap.size wr w') (by kernel_rfl) ((Below.refl _ _).drew) (fun hHeld => ?_)
                refine held_take (i := 0) (v := ?_) rfl (by kernel_rfl) (by kernel_rfl) (by kernel_rfl) (fun _ _ _ h => h) (by rfl) hHeld ?_ ?_
                rotate_left
                · intro wz hSz; go_simp; try with_reducible rfl
                simp only [Act.put, List.setIfInBounds_toArray, List.set_cons_zero, List.set_cons_succ]
                refine held_take (i := 1) (v := ?_) rfl (by kernel_rfl) (by kernel_rfl) (by kernel_rfl) (fun _ _ _ h => h) (by rfl) hHeld ?_ ?_
                rotate_left
                · intro wz hSz; go_simp; try with_reducible rfl
                simp only [Act.put, List.setIfInBounds_toArray, List.set_cons_zero, List.set_cons_succ]
                refine held_take (i := 2) (v := ?_) rfl (by kernel_rfl) (by kernel_rfl) (by kernel_rfl) (fun _ _ _ h => h) (by rfl) hHeld ?_ ?_
                rotate_left
                · intro wz hSz; go_simp; try with_reducible rfl
                simp only [Act.put, List.setIfInBounds_toArray, List.set_cons_zero, List.set_cons_succ]
                refine held_take (i := 3) (v := ?_) rfl (by kernel_rfl) (by kernel_rfl) (by kernel_rfl) (fun _ _ _ h => h) (by rfl) hHeld ?_ ?_
                rotate_left
                · intro wz hSz; obtain ⟨q0, q1, q2⟩ := HCV.out _ hSz; go_simp; try with_reducible rfl
                simp only [Act.put, List.setIfInBounds_toArray, List.set_cons_zero, List.set_cons_succ]
                refine held_take (i := 4) (v := ?_) rfl (by kernel_rfl) (by kernel_rfl) (by kernel_rfl) (fun _ _ _ h => h) (by rfl) hHeld ?_ ?_
                rotate_left
                · intro wz hSz; go_simp; try with_reducible rfl
                simp only [Act.put, List.setIfInBounds_toArray, List.set_cons_zero, List.set_cons_succ]
                refine held_take (i := 5) (v := ?_) rfl (by kernel_rfl) (by kernel_rfl) (by kernel_rfl) (fun _ _ _ h => h) (by rfl) hHeld ?_ ?_
                rotate_left
                · intro wz hSz; go_simp; try with_reducible rfl
                simp only [Act.put, List.setIfInBounds_toArray, List.set_cons_zero, List.set_cons_succ]
                refine held_take (i := 6) (v := ?_) rfl (by kernel_rfl) (by kernel_rfl) (by kernel_rfl) (fun _ _ _ h => h) (by rfl) hHeld ?_ ?_
                rotate_left
                · intro wz hSz; go_simp; try with_reducible rfl
                simp only [Act.put, List.setIfInBounds_toArray, List.set_cons_zero, List.set_cons_succ]
                refine held_take (i := 7) (v := ?_) rfl (by kernel_rfl) (by kernel_rfl) (by kernel_rfl) (fun _ _ _ h => h) (by rfl) hHeld ?_ ?_
                rotate_left
                · intro wz hSz; have q0 := HCZ.out _ hSz; go_simp; try with_reducible rfl
                simp only [Act.put, List.setIfInBounds_toArray, List.set_cons_zero, List.set_cons_succ]
                refine held_call (i := 8) (by kernel_rfl) rfl (by rfl) (by go_simp; try with_reducible rfl) (cf _) ?_
                rintro e wy ⟨rfl, hy⟩
                refine ⟨_, rfl, below_to hHeld hy, ?_⟩
                replace hHeld := below_to hHeld hy
                simp only [Act.put, List.setIfInBounds_toArray, List.set_cons_zero, List.set_cons_succ]
                refine held_take (i := 9) (v := ?_) rfl (by kernel_rfl) (by kernel_rfl) (by kernel_rfl) (fun _ _ _ h => h) (by rfl) hHeld ?_ ?_
                rotate_left
                · intro wz hSz; go_simp; try with_reducible rfl
                simp only [Act.put, List.setIfInBounds_toArray, List.set_cons_zero, List.set_cons_succ]
                refine wpAnyH_done (by kernel_rfl) ?_ _
                have HH := Lib.hid (below_to HBR.out hHeld)
                have caw := evawake_any _ (HEE.out.later HH.out)
                clear hHeld
                go_wp2_with fail
                (with_reducible refine caw.mono ?_)
                rintro en wz ⟨rfl, bz⟩
                have HBF := Lib.hid (below_to (below_to HB0.out HH.out) bz)
                clear bz caw
                go_wp2_with fail
                exact bodyPost_ret (v := .bool true) (by simp [results, Tryz.results4, go_sem]) rfl ⟨rfl, HBF.out⟩
              | true =>
                simp only [hfb] at cf
                have HFB := Lib.hid hfb
                clear hfb
                go_wp2_with fail
                refine wp_region_held_drew (S := fun w' => Below wr.heap.size wr w') (by kernel_rfl) ((Below.refl _ _).drew) (fun hHeld => ?_)
                refine held_take (i := 0) (v := ?_) rfl (by kernel_rfl) (by kernel_rfl) (by kernel_rfl) (fun _ _ _ h => h) (by rfl) hHeld ?_ ?_
                rotate_left
                · intro wz hSz; go_simp; try with_reducible rfl
                simp only [Act.put, List.setIfInBounds_toArray, List.set_cons_zero, List.set_cons_succ]
                refine held_take (i := 1) (v := ?_) rfl (by kernel_rfl) (by kernel_rfl) (by kernel_rfl) (fun _ _ _ h => h) (by rfl) hHeld ?_ ?_
                rotate_left
                · intro wz hSz; go_simp; try with_reducible rfl
                simp only [Act.put, List.setIfInBounds_toArray, List.set_cons_zero, List.set_cons_succ]
                refine held_take (i := 2) (v := ?_) rfl (by kernel_rfl) (by kernel_rfl) (by kernel_rfl) (fun _ _ _ h => h) (by rfl) hHeld ?_ ?_
                rotate_left
                · intro wz hSz; go_simp; try with_reducible rfl
                simp only [Act.put, List.setIfInBounds_toArray, List.set_cons_zero, List.set_cons_succ]
                refine held_take (i := 3) (v := ?_) rfl (by kernel_rfl) (by kernel_rfl) (by kernel_rfl) (fun _ _ _ h => h) (by rfl) hHeld ?_ ?_
                rotate_left
                · intro wz hSz; obtain ⟨q0, q1, q2⟩ := HCV.out _ hSz; go_simp; try with_reducible rfl
                simp only [Act.put, List.setIfInBounds_toArray, List.set_cons_zero, List.set_cons_succ]
                refine held_take (i := 4) (v := ?_) rfl (by kernel_rfl) (by kernel_rfl) (by kernel_rfl) (fun _ _ _ h => h) (by rfl) hHeld ?_ ?_
                rotate_left
                · intro wz hSz; go_simp; try with_reducible rfl
                simp only [Act.put, List.setIfInBounds_toArray, List.set_cons_zero, List.set_cons_succ]
                refine held_take (i := 5) (v := ?_) rfl (by kernel_rfl) (by kernel_rfl) (by kernel_rfl) (fun _ _ _ h => h) (by rfl) hHeld ?_ ?_
                rotate_left
                · intro wz hSz; go_simp; try with_reducible rfl
                simp only [Act.put, List.setIfInBounds_toArray, List.set_cons_zero, List.set_cons_succ]
                refine held_take (i := 6) (v := ?_) rfl (by kernel_rfl) (by kernel_rfl) (by kernel_rfl) (fun _ _ _ h => h) (by rfl) hHeld ?_ ?_
                rotate_left
                · intro wz hSz; go_simp; try with_reducible rfl
                simp only [Act.put, List.setIfInBounds_toArray, List.set_cons_zero, List.set_cons_succ]
                refine held_take (i := 7) (v := ?_) rfl (by kernel_rfl) (by kernel_rfl) (by kernel_rfl) (fun _ _ _ h => h) (by rfl) hHeld ?_ ?_
                rotate_left
                · intro wz hSz; have q0 := HCZ.out _ hSz; go_simp; try with_reducible rfl
                simp only [Act.put, List.setIfInBounds_toArray, List.set_cons_zero, List.set_cons_succ]
                refine held_call (i := 8) (by kernel_rfl) rfl (by rfl) (by go_simp; try with_reducible rfl) (cf _) ?_
                rintro e wy ⟨rfl, hy⟩
                refine ⟨_, rfl, below_to hHeld hy, ?_⟩
                replace hHeld := below_to hHeld hy
                simp only [Act.put, List.setIfInBounds_toArray, List.set_cons_zero, List.set_cons_succ]
                refine held_take (i := 9) (v := ?_) rfl (by kernel_rfl) (by kernel_rfl) (by kernel_rfl) (fun _ _ _ h => h) (by rfl) hHeld ?_ ?_
                rotate_left
                · intro wz hSz; go_simp; try with_reducible rfl
                simp only [Act.put, List.setIfInBounds_toArray, List.set_cons_zero, List.set_cons_succ]
                refine wpAnyH_done (by kernel_rfl) ?_ _
                have HH := Lib.hid hHeld
                clear hHeld
                go_wp2_with fail
                go_roundg (V.length - (k + 1))
                case measure => have := HKA.out; omega
                case rel => exact ⟨k + 1, by have := HKA.out; omega, by go_num, Lib.hid ⟨below_to HW.out.1 HH.out, fun j v z' hj hv hz => by
                  rcases Nat.lt_or_eq_of_le (Nat.le_of_lt_succ hj) with h | h
                  · exact HW.out.2 j v z' h hv hz
                  · subst h
                    rw [HAK.out] at hv
                    rw [HZK.out] at hz
                    injection hv with hv
                    injection hz with hz
                    subst hv; subst hz
                    exact HFB.out⟩⟩
            · have hkz : ¬ (k : Int) < (V.length : Int) := by omega
              have HFA : Hid (FitA V Z) := Lib.hid (fun i v z hv hz => fits_kind (HW.out.2 i v z (by have := (List.getElem?_eq_some_iff.1 hv).1; omega) hv hz))
              have HNZ := Lib.hid (show L.length ≤ 4611686018427387904 from HK.out.ln)
              have c7 := rtypes_any L Z A C cA cC HNZ.out HLZ.out e _ _ wr (HEE.out.later HBR.out) (HV0.out.later HBR.out) (HK.out.later HBR.out).names (HZ.out.below HBR.out)
              obtain ⟨t, ht⟩ : ∃ t, tyN (ofE L Z e) = t := ⟨_, rfl⟩
              obtain ⟨f, hf⟩ : ∃ f, tyF (ofE L Z e) = f := ⟨_, rfl⟩
              have HT := Lib.hid ht
              have HG := Lib.hid hf
              simp only [tyV, ht, hf] at c7
              obtain ⟨-, y0, y1, y2, y3, -⟩ := HX0.out.later HBR.out
              clear ht hf hka HW hk
              go_wp2_with fail
              (with_reducible refine c7.mono ?_)
              rintro en w7 ⟨rfl, d⟩
              have B7 := Lib.hid (below_to HBR.out d)
              clear d c7 y0 y1 y2 y3
              by_cases hf0 : f = 0
              · subst hf0
                have hok := of_zero HG.out
                rw [HT.out] at hok
                have HC := Lib.hid hok.1
                have HO := Lib.hid hok.2
                clear hok
                have hnd := HND.out (by trivial)
                have c8 := copy_any e _ _ w7 (HV0.out.later B7.out) hnd.2 hnd.1
                obtain ⟨-, y0, y1, y2, y3, -⟩ := HX0.out.later B7.out
                clear hnd
                go_wp2_with fail
                (with_reducible refine c8.mono ?_)
                rintro en w8 ⟨b8, ao8, p8, rfl, hx8⟩
                have B8 := Lib.hid (below_to B7.out b8)
                have c9 := eval_all L V A B cA cB e _ _ w8 (HEE.out.later B8.out) hx8 (HK.out.later B8.out)
                have hfit := ExIn.fit e _ HV0.out
                have hev : evA L V e = evalE L V e := by unfold evA; rw [if_pos HC.out]
                have hvok := ok_eval L V HK.out.num e (deep_fits HC.out) hfit
                have hkd := kd_eval L V Z HFA.out e t HO.out
                rw [hev] at c9
                have hck := hvok.1
                clear c8 b8 hx8 y0 y1 y2 y3 hfit hev hvok
                generalize evalE L V e = R at *
                obtain ⟨K, n, s⟩ := R
                unfold vaV at c9
                dsimp only at c9 hck
                unfold Kd at hkd
                dsimp only at hkd
                have ccv := refCheck_any K n ⟨s.toArray⟩
                simp only [hck] at ccv
                have HKD := Lib.hid hkd
                clear hkd hck
                go_wp2_with fail
                (with_reducible refine c9.mono ?_)
                rintro en w9 ⟨rfl, d⟩
                have hat := At3.new w9 K n ⟨s.toArray⟩
                have hba := below_alloc w9 (.cells #[.int .i64 K, .int .i64 n, .string ⟨s.toArray⟩] 41)
                have B10 := Lib.hid (below_to (below_to B8.out d) hba)
                have hz9 := alloc_size w9 (.cells #[.int .i64 K, .int .i64 n, .string ⟨s.toArray⟩] 41)
                have HAT := Lib.hid hat
                obtain ⟨-, q0, q1, q2⟩ := hat
                clear d c9 hba
                go_wp2_with fail
                (with_reducible refine (ccv _).mono ?_)
                rintro en w11 ⟨rfl, d⟩
                have B11 := Lib.hid (below_to B10.out d)
                obtain ⟨-, p0, p1, p2⟩ := HAT.out.later d
                have caw := evawake_any _ (HEE.out.later B11.out)
                clear d ccv q0 q1 q2 HAT hz9
                rcases HKD.out with rfl | rfl | rfl
                · go_wp2_with fail
                  (with_reducible refine caw.mono ?_)
                  rintro en wz ⟨rfl, bz⟩
                  have HBF := Lib.hid (below_to (below_to HB0.out B11.out) bz)
                  clear bz caw
                  go_wp2_with fail
                  exact bodyPost_ret (v := .bool true) (by simp [results, Tryz.results4, go_sem]) rfl ⟨rfl, HBF.out⟩
                · go_wp2_with fail
                  (with_reducible refine caw.mono ?_)
                  rintro en wz ⟨rfl, bz⟩
                  have HBF := Lib.hid (below_to (below_to HB0.out B11.out) bz)
                  clear bz caw
                  go_wp2_with fail
                  exact bodyPost_ret (v := .bool true) (by simp [results, Tryz.results4, go_sem]) rfl ⟨rfl, HBF.out⟩
                · by_cases k0 : K = 0
                  · subst k0
                    go_wp2_with fail
                    (with_reducible refine caw.mono ?_)
                    rintro en wz ⟨rfl, bz⟩
                    have HBF := Lib.hid (below_to (below_to HB0.out B11.out) bz)
                    clear bz caw
                    go_wp2_with fail
                    exact bodyPost_ret (v := .bool true) (by simp [results, Tryz.results4, go_sem]) rfl ⟨rfl, HBF.out⟩
                  · by_cases k4 : K = 4
                    · subst k4
                      go_wp2_with fail
                      (with_reducible refine caw.mono ?_)
                      rintro en wz ⟨rfl, bz⟩
                      have HBF := Lib.hid (below_to (below_to HB0.out B11.out) bz)
                      clear bz caw
                      go_wp2_with fail
                      exact bodyPost_ret (v := .bool true) (by simp [results, Tryz.results4, go_sem]) rfl ⟨rfl, HBF.out⟩
                    · have b0 : (K == 0) = false := by simpa using k0
                      have b4 : (K == 4) = false := by simpa using k4
                      go_wp2_with fail
                      (with_reducible refine caw.mono ?_)
                      rintro en wz ⟨rfl, bz⟩
                      have HBF := Lib.hid (below_to (below_to HB0.out B11.out) bz)
                      clear bz caw
                      go_wp2_with fail
                      exact bodyPost_ret (v := .bool true) (by simp [results, Tryz.results4, go_sem]) rfl ⟨rfl, HBF.out⟩
              · have caw := evawake_any w7 (HEE.out.later B7.out)
                have fb : (f != 0) = true := by simpa using hf0
                go_wp2_with fail
                (with_reducible refine caw.mono ?_)
                rintro en wz ⟨rfl, bz⟩
                have HBF := Lib.hid (below_to (below_to HB0.out B7.out) bz)
                clear bz caw
                go_wp2_with fail
                exact bodyPost_ret (v := .bool true) (by simp [results, Tryz.results4, go_sem]) rfl ⟨rfl, HBF.out⟩
end Go.Proofs.YtaaibciacipelaaGreatDoor
