/- The contract of the document's own name: the name that begins at the next piece. -/
import Derived.Test.YtepppianhafdjaaGreatDoorGF
import Derived.Test.YtepppianhafdjaaGreatDoorGE
namespace Go.Proofs.YtepppianhafdjaaGreatDoor
open Go.RowKit

theorem still_add {w w' : World} (h : ∃ n, w' = w.drewN n) (q : Nat) : ∃ n, w'.drewN q = w.drewN n := by
  obtain ⟨n, rfl⟩ := h; rw [World.drewN_drewN]; exact ⟨_, rfl⟩
/-- What stays while the name's text is cut out and stored. -/
def NamS (w : World) (g : Nat) (t : ByteArray) (P : List Pc) (ao : Option Addr) (cap k b : Nat) (K here : Int) (w' : World) : Prop := ∃ s1 : Value, LA w w' g t P ao cap k ∧ Two4 w w' b w.heap.size (.int .i64 K) s1 (.int .i64 0) (.int .i64 here)
theorem NamS.q {w w' : World} {g : Nat} {t : ByteArray} {P : List Pc} {ao : Option Addr} {cap k b : Nat} {K here : Int} (h : NamS w g t P ao cap k b K here w') (q : Nat) : NamS w g t P ao cap k b K here (w'.drewN q) := by
  obtain ⟨s1, h1, h2⟩ := h; exact ⟨s1, h1.q q, h2.q q⟩
theorem flat_split (P : List Pc) (k m : Nat) : (flat (P.take (k + m))) = flat (P.take k) ++ flat ((P.drop k).take m) := by
  rw [← flat_append, ← List.take_add]
theorem cut_flat {t : ByteArray} {P : List Pc} (hP : pcs t.data.toList = P) (k m : Nat) :
    (flat (P.take (k + m))).length ≤ t.size ∧ (t.extract (flat (P.take k)).length (flat (P.take (k + m))).length).data.toList = flat ((P.drop k).take m) := by
  have e : t.data.toList = flat (P.take (k + m)) ++ flat (P.drop (k + m)) := by rw [← flat_append, List.take_append_drop, ← hP, flat_pcs]
  have hl := congrArg List.length e
  rw [size_list, List.length_append] at hl
  refine ⟨by omega, ?_⟩
  rw [Lib.extract_data, e, flat_split P k m, List.append_assoc, List.drop_left, List.length_append, Nat.add_sub_cancel_left, List.take_left]

set_option maxHeartbeats 2000000 in
set_option maxRecDepth 100000 in
theorem lname_any (g : Nat) (t : ByteArray) (P : List Pc) (ao : Option Addr) (cap k : Nat) (x : Pc) (R : List Pc) (w : World) (h : LR w g t P ao cap k) (hP : pcs t.data.toList = P) (hl : t.size ≤ 1000) (hd : P.drop k = x :: R) (hx : classZ (x.1 : Int) = 1) :
    Calls Tryz.prog 136 #[.pointer (some ⟨g, 0, none⟩)] w (LTok w g t P ao cap k (nameF x R)) := by
  have hPc : Pcd P := hP ▸ Pcd.of _
  have hs : (flat P).length = t.size := by rw [← hP, flat_pcs, size_list]
  obtain ⟨D, hD⟩ : ∃ D, (P.drop k).takeWhile isWord = D := ⟨_, rfl⟩
  have hD2 : D = x :: R.takeWhile isWord := by rw [← hD, hd, List.takeWhile_cons_of_pos (by simp [isWord, hx])]
  have hDl : D.length = 1 + (R.takeWhile isWord).length := by rw [hD2, List.length_cons]; omega
  have hDt : (P.drop k).take D.length = D := by rw [← hD]; exact take_takeWhile _ _
  have hDP : k + D.length ≤ P.length := by
    have h1 : D.length ≤ (P.drop k).length := by rw [← hD]; exact (List.takeWhile_prefix isWord).length_le
    have h2 := congrArg List.length hd
    rw [List.length_drop] at h1 h2
    rw [List.length_cons] at h2
    omega
  have hPl : P.length ≤ 1000 := by have := flat_len hPc.fit; omega
  have hrun := fun i => run_at hD i
  obtain ⟨hcs, hce⟩ := cut_flat hP k D.length
  rw [hDt] at hce
  have hnam : nameF x R = if (flat D).length ≤ 24 then some ⟨3, flat D, 0, D.length - 1⟩ else none := by
    unfold nameF; rw [← hD2, hDl, Nat.add_sub_cancel_left]
  obtain ⟨O, hO⟩ : ∃ O, nameF x R = O := ⟨_, rfl⟩
  rw [hO] at hnam ⊢
  obtain ⟨here, hh⟩ : ∃ n : Nat, (flat (P.take k)).length = n := ⟨_, rfl⟩
  obtain ⟨fin, hf⟩ : ∃ n : Nat, (flat (P.take (k + D.length))).length = n := ⟨_, rfl⟩
  have hhf : here ≤ fin := by rw [← hh, ← hf, flat_split, List.length_append]; omega
  rw [hh, hf] at hce
  rw [hf] at hcs
  obtain ⟨T, hT⟩ : ∃ T, t.extract here fin = T := ⟨_, rfl⟩
  rw [hT] at hce
  have HH := Lib.hid hh
  have HFI := Lib.hid hf
  have HO := Lib.hid hnam
  have HR := Lib.hid hrun
  have HCE := Lib.hid hce
  have HS := Lib.hid hs
  have hgl := h.lt
  have hA0 := (LA.start h).alloc (.cells #[.int .i64 0, .string ⟨#[]⟩, .int .i64 0, .int .i64 0] 86)
  have hr0 := four_new w (.int .i64 0) (.string ⟨#[]⟩) (.int .i64 0) (.int .i64 0) 86
  have hs0 : w.heap.size < (w.alloc (.cells #[.int .i64 0, .string ⟨#[]⟩, .int .i64 0, .int .i64 0] 86)).heap.size := hr0.lt
  obtain ⟨w0, hw0⟩ : ∃ w0, w.alloc (.cells #[.int .i64 0, .string ⟨#[]⟩, .int .i64 0, .int .i64 0] 86) = w0 := ⟨_, rfl⟩
  rw [hw0] at hA0 hr0 hs0
  have cH := lhere_any g t P ao cap k w0 hA0.1 hs
  rw [hh] at cH
  have HA := Lib.hid hA0
  clear h hd hD hx hO hnam hrun hA0 hs hD2 hh hf hce hDt hP hPc
  go_enter Tryz.func136, Tryz.ntmps136
  go_wp2_with fail
  refine cH.mono ?_
  rintro e w1 ⟨rfl, q, rfl⟩
  clear hw0
  have hA1 := HA.out.later (below_still ⟨q, rfl⟩)
  have hr1 := hr0.later (below_still ⟨q, rfl⟩)
  have hs1 : w.heap.size < (w0.drewN q).heap.size := hr1.lt
  generalize hw1 : w0.drewN q = w1 at *
  clear hw1 hr0 hs0 HA cH
  go_upto_region 2 with fail
  have hb2 := below_alloc w1 (.cells #[.int .i64 3, .string ⟨#[]⟩, .int .i64 0, .int .i64 (here : Int)] 86)
  have hA2 := hA1.later hb2
  have hF2 : Two4 w _ w1.heap.size w.heap.size (.int .i64 3) (.string ⟨#[]⟩) (.int .i64 0) (.int .i64 (here : Int)) := ⟨Nat.le_of_lt hs1, Nat.le_refl _, by omega, four_new w1 (.int .i64 3) (.string ⟨#[]⟩) (.int .i64 0) (.int .i64 (here : Int)) 86, hr1.later hb2⟩
  generalize hw2 : w1.alloc (.cells #[.int .i64 3, .string ⟨#[]⟩, .int .i64 0, .int .i64 (here : Int)] 86) = w2 at *
  generalize hbb : w1.heap.size = b at *
  clear hw2 hb2 hA1 hr1 hs1 hbb
  have HA := Lib.hid hA2
  have HF2 := Lib.hid hF2
  clear hA2 hF2
  go_loopg [] (D.length) (fun n wr => ∃ (i : Nat), i + n = D.length ∧ Hid (LA w wr g t P ao cap (k + i)) ∧ Hid (Two4 w wr b w.heap.size (.int .i64 3) (.string ⟨#[]⟩) (.int .i64 0) (.int .i64 (here : Int))))
  case atStart => exact ⟨0, by omega, HA, HF2⟩
  case round =>
    obtain ⟨i, hin, HA3, HF3⟩ := hrel
    clear HA HF2
    have cC := fun q => lclass_any g t P ao cap (k + i) (wr.drewN q) (HA3.out.q q).1
    have cC0 := lclass_any g t P ao cap (k + i) wr HA3.out.1
    obtain ⟨c0, c1, c2, f2⟩ := HA3.out.1.cells
    obtain ⟨lo, lo2, hne, ⟨tl, t0, t1, t2, t3, tf0, tf1, tf2, tf3⟩, ⟨rl, z0, z1, z2, z3, f0, f1, f2', f3⟩⟩ := HF3.out
    by_cases hi : i < D.length
    · obtain ⟨hdr, hdg⟩ := (HR.out i).1 hi
      have hdc : classZ (D[i].1 : Int) = 1 ∨ classZ (D[i].1 : Int) = 2 := by simpa [isWord] using hdg
      rw [hdr] at cC cC0
      simp only [clsY] at cC cC0
      clear hdr hdg
      rcases hdc with hdc | hdc
      · simp only [hdc] at cC0
        clear hdc cC
        go_wp2_with fail
        refine cC0.mono ?_
        rintro e w4 ⟨rfl, q4, rfl⟩
        clear cC0
        go_wp2_with fail
        go_roundg (gk - 1)
        case measure => omega
        case rel => exact ⟨i + 1, by omega, Lib.hid ((HA3.out.q _).goes (by omega) (by omega)), Lib.hid ((HF3.out.q _).goes hgl _)⟩
      · simp only [hdc] at cC cC0
        clear hdc
        go_wp2_with fail
        refine cC0.mono ?_
        rintro e w4 ⟨rfl, q4, rfl⟩
        clear cC0
        go_wp2_with fail
        refine (cC _).mono ?_
        rintro e w4 ⟨rfl, q5, rfl⟩
        clear cC
        go_wp2_with fail
        go_roundg (gk - 1)
        case measure => omega
        case rel =>
          refine ⟨i + 1, by omega, Lib.hid ?_, Lib.hid ?_⟩
          · first
            | exact (HA3.out.q _).goes (by omega) (by omega)
            | exact ((HA3.out.q _).q _).goes (by omega) (by omega)
          · first
            | exact (HF3.out.q _).goes hgl _
            | exact ((HF3.out.q _).q _).goes hgl _
    · obtain rfl : i = D.length := by omega
      have hno : clsY (P.drop (k + D.length)) ≠ 1 ∧ clsY (P.drop (k + D.length)) ≠ 2 := by
        have h2 := (HR.out D.length).2 rfl
        cases hY : P.drop (k + D.length) with
        | nil => decide
        | cons y Y =>
          have := h2 y (by rw [hY]; rfl)
          unfold isWord at this
          have h3 := of_decide_eq_false this
          exact ⟨fun e => h3 (.inl e), fun e => h3 (.inr e)⟩
      obtain ⟨c, hc⟩ : ∃ c, clsY (P.drop (k + D.length)) = c := ⟨_, rfl⟩
      simp only [hc] at cC cC0 hno
      have hn1 : (c == 1) = false := beq_eq_false_iff_ne.2 hno.1
      have hn2 : (c == 2) = false := beq_eq_false_iff_ne.2 hno.2
      clear hc hno
      go_wp2_with fail
      refine cC0.mono ?_
      rintro e w4 ⟨rfl, q4, rfl⟩
      clear cC0
      go_wp2_with fail
      refine (cC _).mono ?_
      rintro e w4 ⟨rfl, q5, rfl⟩
      clear cC
      have hA5 := (HA3.out.q q4).q q5
      have hF5 := (HF3.out.q q4).q q5
      clear c0 c1 c2 f2 tl t0 t1 t2 t3 tf0 tf1 tf2 tf3 rl z0 z1 z2 z3 f0 f1 f2' f3 HA3 HF3
      generalize hw5 : (wr.drewN q4).drewN q5 = w5 at *
      clear hw5
      obtain ⟨c0, c1, c2, -⟩ := hA5.1.cells
      have hF5b := hF5
      obtain ⟨-, -, -, ⟨tl, t0, t1, t2, t3, tf0, tf1, tf2, tf3⟩, -⟩ := hF5b
      have cH2 := fun q => lhere_any g t P ao cap (k + D.length) (w5.drewN q) (hA5.q q).1 HS.out
      simp only [HFI.out] at cH2
      have hz1 : (here : Int) ≤ (fin : Int) := by omega
      have hz2 : (fin : Int) ≤ (t.size : Int) := by omega
      have HA5 := Lib.hid hA5
      have HF5 := Lib.hid hF5
      have hS0 : NamS w g t P ao cap (k + D.length) b 3 here w5.drew := ⟨_, hA5.q 1, hF5.q 1⟩
      clear hA5 hF5
      go_upto_region 4 with fail
      refine wp_region_held_drew (S := NamS w g t P ao cap (k + D.length) b 3 here) (by kernel_rfl) (hS0) (fun hHeld => ?_)
      refine held_take (i := 0) (v := ?_) rfl (by kernel_rfl) (by kernel_rfl) (by kernel_rfl) (fun _ _ _ h => h) (by rfl) hHeld ?_ ?_
      rotate_left
      · intro wz hSz; go_simp; try with_reducible rfl
      simp only [Act.put, List.setIfInBounds_toArray, List.set_cons_zero, List.set_cons_succ]
      refine held_take (i := 1) (v := ?_) rfl (by kernel_rfl) (by kernel_rfl) (by kernel_rfl) (fun _ _ _ h => h) (by rfl) hHeld ?_ ?_
      rotate_left
      · intro wz hSz; go_simp; try with_reducible rfl
      simp only [Act.put, List.setIfInBounds_toArray, List.set_cons_zero, List.set_cons_succ]
      refine held_take (i := 2) (v := ?_) rfl (by kernel_rfl) (by kernel_rfl) (by kernel_rfl) (fun _ _ _ h => h) (by rfl) hHeld ?_ ?_
      rotate_left
      · intro wz hSz; go_simp; try with_reducible rfl
      simp only [Act.put, List.setIfInBounds_toArray, List.set_cons_zero, List.set_cons_succ]
      refine held_take (i := 3) (v := ?_) rfl (by kernel_rfl) (by kernel_rfl) (by kernel_rfl) (fun _ _ _ h => h) (by rfl) hHeld ?_ ?_
      rotate_left
      · intro wz hSz; obtain ⟨s1, hl1, hf1⟩ := hSz; obtain ⟨d0, -, -, -⟩ := hl1.1.cells; go_simp; try with_reducible rfl
      simp only [Act.put, List.setIfInBounds_toArray, List.set_cons_zero, List.set_cons_succ]
      refine held_take (i := 4) (v := ?_) rfl (by kernel_rfl) (by kernel_rfl) (by kernel_rfl) (fun _ _ _ h => h) (by rfl) hHeld ?_ ?_
      rotate_left
      · intro wz hSz; go_simp; try with_reducible rfl
      simp only [Act.put, List.setIfInBounds_toArray, List.set_cons_zero, List.set_cons_succ]
      refine held_take (i := 5) (v := ?_) rfl (by kernel_rfl) (by kernel_rfl) (by kernel_rfl) (fun _ _ _ h => h) (by rfl) hHeld ?_ ?_
      rotate_left
      · intro wz hSz; obtain ⟨s1, hl1, hf1⟩ := hSz; have d3 := hf1.t.c3; go_simp; try with_reducible rfl
      simp only [Act.put, List.setIfInBounds_toArray, List.set_cons_zero, List.set_cons_succ]
      refine held_take (i := 6) (v := ?_) rfl (by kernel_rfl) (by kernel_rfl) (by kernel_rfl) (fun _ _ _ h => h) (by rfl) hHeld ?_ ?_
      rotate_left
      · intro wz hSz; go_simp; try with_reducible rfl
      simp only [Act.put, List.setIfInBounds_toArray, List.set_cons_zero, List.set_cons_succ]
      refine held_call (i := 7) (by kernel_rfl) rfl (by rfl) (by go_simp; try with_reducible rfl) (cH2 1) ?_
      rintro e wy ⟨rfl, q6, rfl⟩
      refine ⟨_, rfl, hHeld.q q6, ?_⟩
      replace hHeld := hHeld.q q6
      simp only [Act.put, List.setIfInBounds_toArray, List.set_cons_zero, List.set_cons_succ]
      refine held_take (i := 8) (v := ?_) rfl (by kernel_rfl) (by kernel_rfl) (by kernel_rfl) (fun _ _ _ h => h) (by rfl) hHeld ?_ ?_
      rotate_left
      · intro wz hSz; go_simp; try with_reducible rfl
      simp only [Act.put, List.setIfInBounds_toArray, List.set_cons_zero, List.set_cons_succ]
      refine held_take (i := 9) (v := ?_) rfl (by kernel_rfl) (by kernel_rfl) (by kernel_rfl) (fun _ _ _ h => h) (by rfl) hHeld ?_ ?_
      rotate_left
      · intro wz hSz; go_simp; try with_reducible rfl
      simp only [Act.put, List.setIfInBounds_toArray, List.set_cons_zero, List.set_cons_succ]
      refine held_one (i := 10) (by kernel_rfl) rfl (by rfl) (fun K hK => ?_)
      go_simp
      refine hK _ _ ⟨_, (HA5.out.q _).put lo 1 _, (HF5.out.q _).str _⟩ ?_
      refine wpAnyH_done (by kernel_rfl) ?_ _
      clear hHeld hK hS0
      have hA6 := ((HA5.out.q (1 + q6)).put lo 1 (.string T))
      have hF6 := ((HF5.out.q (1 + q6)).str (.string T))
      generalize hw6 : (w5.drewN (1 + q6)).setCell ⟨b, 1, none⟩ (.string T) = w6 at *
      clear hw6 HA5 HF5 tl t0 t1 t2 t3 tf0 tf1 tf2 tf3 c0 c1 c2 cH2
      obtain ⟨-, -, -, ⟨tl, t0, t1, t2, t3, tf0, tf1, tf2, tf3⟩, ⟨rl, z0, z1, z2, z3, f0, f1, f2, f3⟩⟩ := hF6
      have hTs : T.size = (flat D).length := by rw [← size_list, HCE.out]
      have hTe : T = ⟨(flat D).toArray⟩ := by
        apply ByteArray.ext; apply Array.toList_inj.1; exact HCE.out
      have HTE := Lib.hid hTe
      have HTS := Lib.hid hTs
      have HA6 := Lib.hid hA6
      clear hTe hTs hA6
      go_wp2_with fail
      go_region
      go_wp2_with fail
      have hAE := (((((HA6.out).put lo2 0 (.int .i64 3)).put lo2 1 (.string T)).put lo2 2 (.int .i64 0)).put lo2 3 (.int .i64 (here : Int))).q 1
      refine bodyPost_ret (v := .tuple #[T4 3 T 0 here, .bool (decide ((T.size : Int) ≤ 24))]) (by simp [results, Tryz.results136, go_sem, z0, z1, z2, z3]) rfl ⟨hAE.2.1, ?_⟩
      rw [HO.out, ← HTS.out]
      by_cases h24 : T.size ≤ 24
      · rw [if_pos h24, HH.out, decide_eq_true (by omega)]
        refine ⟨?_, ?_⟩
        · show Ending.returned (.tuple #[T4 3 T 0 here, .bool true]) = Ending.returned (.tuple #[T4 3 ⟨(flat D).toArray⟩ 0 here, .bool true])
          rw [← HTE.out]
        · show LR _ g t P ao cap (k + 1 + (D.length - 1))
          rw [show k + 1 + (D.length - 1) = k + D.length by omega]
          exact hAE.1
      · rw [if_neg h24, HH.out, decide_eq_false (by omega)]
        exact ⟨_, _, _, rfl⟩
end Go.Proofs.YtepppianhafdjaaGreatDoor
