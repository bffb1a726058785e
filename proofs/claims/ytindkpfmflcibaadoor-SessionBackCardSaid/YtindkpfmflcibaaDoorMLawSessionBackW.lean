/- The statement SessionBack: a table that is put and loaded into a new one is the same, and goes on the same. Conditions: none but what the card ties (the library's variables hold what their texts lay). -/
import Derived.Test.YtindkpfmflcibaaDoorMSsI
import Derived.Test.YtindkpfmflcibaaDoorMSsZ
import Derived.Test.YtindkpfmflcibaaDoorMSsA
import Derived.Test.YtindkpfmflcibaaDoorMPlc
import Derived.Test.YtindkpfmflcibaaDoorMHeld2
import Derived.StillTailTactics
import Derived.Deep.CutRange
import Derived.Deep.RegionWith
namespace Go.Proofs.YtindkpfmflcibaaDoor
open Go.RowKit Go.Maps Go.Sort Go.Shelf
set_option linter.unusedSimpArgs false

theorem tabB_len {most : Nat} {L : List Se} (h : Tb most L) : (tabB L).length ≤ 64012810 := by
  have hl : L.length ≤ 64 := Nat.le_trans h.len h.hi
  have := row_small h (P0 := putI (L.length : Int)) (putI_of_len hl).2 hl
  rwa [List.take_length] at this
theorem text_run {w : World} {A : Option Addr} {L : List UInt8} {t : ByteArray} (cap : Nat) (hB : Bs w A L) (h : (⟨L.toArray⟩ : ByteArray) = t) : (convert 40 9 (.slice A L.length cap)).run Tryd.prog w = .ok (.string t) w := by
  rw [← h]
  exact run_str_of (P := Tryd.prog) 40 9 5 cap Tryd.underlying40 Tryd.underlying5 Tryd.underlying9 hB
theorem same_self (A B : Option Addr) (X : List Int) (ca cb : Nat) (w : World) (hl : X.length ≤ 64) (hA : Is w A X) (hB : Is w B X) :
    Calls Tryd.prog 19 #[.slice A X.length ca, .slice B X.length cb] w fun e w' => e = .returned (.bool true) ∧ Below w.heap.size w w' := by
  have c := Ss.same_any A B X X ca cb w (by omega) hA hB
  rwa [decide_eq_true rfl] at c
set_option maxHeartbeats 16000000 in
set_option maxRecDepth 100000 in
theorem sessionback_walk (x : Int) (A : Option Addr) (Z : List Oq) (c : Nat) (B : Option Addr) (Y : List Oq) (d : Nat) (w : World) (hx0 : -9223372036854775808 ≤ x) (hx1 : x ≤ 9223372036854775807)
    (hzl : Z.length ≤ 17592186044416) (hZ : OpsAt w w.heap.size A Z) (hZI : ∀ o ∈ Z, o.In) (hyl : Y.length ≤ 17592186044416) (hY : OpsAt w w.heap.size B Y) (hYI : ∀ o ∈ Y, o.In) (hT : Tabs w) :
    Calls Tryd.prog 4 #[.int .i64 x, .slice A Z.length c, .slice B Y.length d] w fun e w' => e = .returned (.bool true) ∧ Below w.heap.size w w' := by
  have HZ := Lib.hid (And.intro hzl (And.intro hZ hZI))
  have HY := Lib.hid (And.intro hyl (And.intro hY hYI))
  have HT := Lib.hid hT
  have cP := fun W => place_z x 8 W hx0 hx1 (by decide) (by decide)
  have hp0 := placeZ_lo x 8 (by decide)
  have hp1 := placeZ_hi x 8 (by decide)
  obtain ⟨p, hp⟩ : ∃ p, placeZ x 8 = p := ⟨_, rfl⟩
  rw [hp] at hp0 hp1
  simp only [hp] at cP
  obtain ⟨m, hm⟩ : ∃ m, cutM (1 + p) = m := ⟨_, rfl⟩
  have hmz : (m : Int) = 1 + p := by rw [← hm, cutM_nat]; omega
  have HM := Lib.hid hmz
  have c1 := fun W => stnew_any (1 + p) W
  simp only [hm] at c1
  obtain ⟨nz, hnz⟩ : ∃ nz, Z.length = nz := ⟨_, rfl⟩
  obtain ⟨ny, hny⟩ : ∃ ny, Y.length = ny := ⟨_, rfl⟩
  rw [hnz, hny]
  have HNZ := Lib.hid hnz
  have HNY := Lib.hid hny
  clear hm hp hzl hZ hZI hyl hY hYI hT hx0 hx1 hmz hnz hny
  go_enter Tryd.func4, Tryd.ntmps4
  go_wp2_with fail
  refine (cP _).mono ?_
  rintro e w0 ⟨rfl, rfl⟩
  clear cP
  go_wp2_with fail
  refine (c1 _).mono ?_
  rintro e w1 ⟨T, r, rfl, H1, hTw, hrw, hb1⟩
  have HS1 := Lib.hid (And.intro hTw (And.intro hrw (And.intro hb1.size (And.intro H1.lt H1.m.lt))))
  have HA1 := Lib.hid H1
  have HB1 := Lib.hid hb1
  clear hTw hrw H1 hb1
  go_wp2_with fail
  refine (c1 _).mono ?_
  rintro e w2 ⟨T2, r2, rfl, H2, hTw, hrw, hb2⟩
  have HS2 := Lib.hid (And.intro hTw (And.intro hrw (And.intro hb2.size (And.intro H2.lt H2.m.lt))))
  have HA2 := Lib.hid (HA1.out.later hb2)
  have HD2 := Lib.hid H2
  have HB2 := Lib.hid (HB1.out.trans (hb2.mono HS1.out.2.2.1))
  clear hTw hrw H2 hb2 c1 HA1 HB1
  have s0 := HS1.out
  have s1 := HS2.out
  have k1 := calls15_any T r m w.heap.size A Z c [] w2 HA2.out (by omega) (by omega) (HZ.out.2.1.below HB2.out) HZ.out.2.2 (fun W hW => HT.out.later (HB2.out.trans (hW.below (by omega) (by omega) (by omega)))) HZ.out.1
  rw [HNZ.out] at k1
  obtain ⟨L1, hL1⟩ : ∃ L1, runS m (Z.take 30) [] = L1 := ⟨_, rfl⟩
  rw [hL1] at k1
  clear hL1 s0 s1
  go_wp2_with fail
  refine k1.mono ?_
  rintro e w3 ⟨rfl, K3, B3⟩
  clear k1
  have HA3 := Lib.hid K3
  have HD3 := Lib.hid (show Tab w3 T2 r2 m [] by
    have s0 := HS1.out
    have s1 := HS2.out
    exact HD2.out.other B3 (by omega) (by omega) (by omega) (by omega))
  have HB3 := Lib.hid (show Below w.heap.size w w3 by
    have s0 := HS1.out
    have s1 := HS2.out
    exact HB2.out.trans (B3.below (by omega) (by omega) (by omega)))
  have HS3 := Lib.hid B3.size
  have cp := stput_any T r m L1 w3 K3
  have hXl := tabB_len K3.t
  have ht := K3.t
  obtain ⟨X, hX⟩ : ∃ X, tabB L1 = X := ⟨_, rfl⟩
  rw [hX] at cp hXl
  have HX := Lib.hid hX
  have HTb := Lib.hid ht
  clear K3 B3 HA2 HD2 HB2 hX ht
  go_wp2_with fail
  refine cp.mono ?_
  rintro e w4 ⟨Ab, cb, rfl, hBb, hcb, _, b4⟩
  have cn := new_any Ab X cb w4 (by omega) hBb hcb
  have HA4 := Lib.hid (HA3.out.later b4)
  have HD4 := Lib.hid (HD3.out.later b4)
  have HB4 := Lib.hid (HB3.out.trans (b4.mono HB3.out.size))
  have HS4 := Lib.hid b4.size
  clear hBb hcb b4 cp HA3 HD3 HB3
  go_wp2_with fail
  refine cn.mono ?_
  rintro e w5 ⟨g, rfl, hR, b5⟩
  have HA5 := Lib.hid (HA4.out.later b5)
  have HD5 := Lib.hid (HD4.out.later b5)
  have HB5 := Lib.hid (HB4.out.trans (b5.mono HB4.out.size))
  have HS5 := Lib.hid (And.intro b5.size (And.intro hR.1 hR.lt))
  have HR := Lib.hid hR
  clear hR b5 cn HA4 HD4 HB4 hXl
  go_upto_region 9 with fail
  go_cut [49] from 12 to 82 (fun s49 wx => s49 = .bool false ∧ Hid (Tab wx T r m L1) ∧ Hid (∃ mm, Tab wx T2 mm m L1 ∧ w5.heap.size ≤ mm) ∧ Hid (Below w.heap.size w wx) ∧ Hid (w5.heap.size ≤ wx.heap.size))
  case first =>
    have s0 := HS1.out
    have s1 := HS2.out
    have s3 := HS3.out
    have s4 := HS4.out
    have s5 := HS5.out
    have d5 : Below w5.heap.size w5 w5.drew := (Below.refl _ _).drew
    have dsz : w5.drew.heap.size = w5.heap.size := rfl
    have cL := stload_any w4.heap.size g T2 r2 m [] L1 w5.drew HTb.out (HD5.out.later d5) (by rw [HX.out]; exact HR.out) (by omega) (by omega) w HT.out (HB5.out.trans (d5.mono HB5.out.size)) (by omega)
    have HA5d := Lib.hid (HA5.out.later d5)
    have HGO : Hid (∀ W, But2 g T2 w5.drew W → Below w.heap.size w5.drew W ∧ Tab W T r m L1) := Lib.hid fun W hW => ⟨hW.below (by omega) (by omega) (by omega), HA5d.out.other hW (by omega) (by omega) (by omega) (by omega)⟩
    clear s0 s1 s3 s4 s5 d5 dsz
    refine wp_region_held_drew (S := fun w' => Below w.heap.size w w') (by kernel_rfl) (HB5.out.drew) (fun hHeld => ?_)
    refine held_take (i := 0) (v := ?_) rfl (by kernel_rfl) (by kernel_rfl) (by kernel_rfl) (fun _ _ _ h => h) (by rfl) hHeld ?_ ?_
    rotate_left
    · intro wz hSz; go_simp; try with_reducible rfl
    simp only [Act.put, List.setIfInBounds_toArray, List.set_cons_zero, List.set_cons_succ]
    refine held_take (i := 1) (v := ?_) rfl (by kernel_rfl) (by kernel_rfl) (by kernel_rfl) (fun _ _ _ h => h) (by rfl) hHeld ?_ ?_
    rotate_left
    · intro wz hSz; go_simp; try with_reducible rfl
    simp only [Act.put, List.setIfInBounds_toArray, List.set_cons_zero, List.set_cons_succ]
    refine held_call (i := 2) (by kernel_rfl) rfl (by rfl) (by go_simp; try with_reducible rfl) (cL) ?_
    rintro e wy ⟨mm, rfl, hmm, KL, RL, BL⟩
    refine ⟨_, rfl, hHeld.trans (HGO.out _ BL).1, ?_⟩
    replace hHeld := hHeld.trans (HGO.out _ BL).1
    simp only [Act.put, List.setIfInBounds_toArray, List.set_cons_zero, List.set_cons_succ]
    have HA6 := Lib.hid (HGO.out _ BL).2
    have HD6 := Lib.hid KL
    have HMM := Lib.hid (show w5.heap.size ≤ mm from hmm)
    have HSZ := Lib.hid (show w5.heap.size ≤ wy.heap.size from BL.size)
    have cE := end_any _ _ _ _ RL
    rw [show (!(([] : List UInt8), false).2 && (([] : List UInt8), false).1.length == 0) = true by rfl] at cE
    have cQ2 := stput_any T2 mm m L1 _ HD6.out
    rw [HX.out] at cQ2
    clear cL HGO HA5d hmm KL RL BL
    refine held_take (i := 3) (v := ?_) rfl (by kernel_rfl) (by kernel_rfl) (by kernel_rfl) (fun _ _ _ h => h) (by rfl) hHeld ?_ ?_
    rotate_left
    · intro wz hSz; go_simp; try with_reducible rfl
    simp only [Act.put, List.setIfInBounds_toArray, List.set_cons_zero, List.set_cons_succ]
    refine held_take (i := 4) (v := .bool false) rfl (by kernel_rfl) (by kernel_rfl) (by kernel_rfl) (fun _ _ _ h => h) (by rfl) hHeld ?_ ?_
    · intro wz hSz; (go_simp; try with_reducible rfl)
    simp only [Act.put, List.setIfInBounds_toArray, List.set_cons_zero, List.set_cons_succ]
    refine held_take (i := 5) (v := ?_) rfl (by kernel_rfl) (by kernel_rfl) (by kernel_rfl) (fun _ _ _ h => h) (by rfl) hHeld ?_ ?_
    rotate_left
    · intro wz hSz; go_simp; try with_reducible rfl
    simp only [Act.put, List.setIfInBounds_toArray, List.set_cons_zero, List.set_cons_succ]
    refine held_call (i := 6) (by kernel_rfl) rfl (by rfl) (by go_simp; try with_reducible rfl) (cE) ?_
    rintro e wy ⟨rfl, rfl⟩
    refine ⟨_, rfl, hHeld, ?_⟩
    replace hHeld := hHeld
    simp only [Act.put, List.setIfInBounds_toArray, List.set_cons_zero, List.set_cons_succ]
    clear cE
    refine held_take (i := 7) (v := ?_) rfl (by kernel_rfl) (by kernel_rfl) (by kernel_rfl) (fun _ _ _ h => h) (by rfl) hHeld ?_ ?_
    rotate_left
    · intro wz hSz; go_simp; try with_reducible rfl
    simp only [Act.put, List.setIfInBounds_toArray, List.set_cons_zero, List.set_cons_succ]
    refine held_take (i := 8) (v := ?_) rfl (by kernel_rfl) (by kernel_rfl) (by kernel_rfl) (fun _ _ _ h => h) (by rfl) hHeld ?_ ?_
    rotate_left
    · intro wz hSz; go_simp; try with_reducible rfl
    simp only [Act.put, List.setIfInBounds_toArray, List.set_cons_zero, List.set_cons_succ]
    refine held_take (i := 9) (v := .bool false) rfl (by kernel_rfl) (by kernel_rfl) (by kernel_rfl) (fun _ _ _ h => h) (by rfl) hHeld ?_ ?_
    · intro wz hSz; (go_simp; try with_reducible rfl)
    simp only [Act.put, List.setIfInBounds_toArray, List.set_cons_zero, List.set_cons_succ]
    refine held_take (i := 10) (v := ?_) rfl (by kernel_rfl) (by kernel_rfl) (by kernel_rfl) (fun _ _ _ h => h) (by rfl) hHeld ?_ ?_
    rotate_left
    · intro wz hSz; go_simp; try with_reducible rfl
    simp only [Act.put, List.setIfInBounds_toArray, List.set_cons_zero, List.set_cons_succ]
    refine held_take (i := 13) (v := ?_) rfl (by kernel_rfl) (by kernel_rfl) (by kernel_rfl) (fun _ _ _ h => h) (by rfl) hHeld ?_ ?_
    rotate_left
    · intro wz hSz; go_simp; try with_reducible rfl
    simp only [Act.put, List.setIfInBounds_toArray, List.set_cons_zero, List.set_cons_succ]
    refine held_call (i := 11) (by kernel_rfl) rfl (by rfl) (by go_simp; try with_reducible rfl) (cQ2) ?_
    rintro e wy ⟨A7, p7, rfl, hB7, _, _, hy⟩
    refine ⟨_, rfl, hHeld.trans (hy.mono hHeld.size), ?_⟩
    replace hHeld := hHeld.trans (hy.mono hHeld.size)
    simp only [Act.put, List.setIfInBounds_toArray, List.set_cons_zero, List.set_cons_succ]
    have HA7 := Lib.hid (HA6.out.later hy)
    have HD7 := Lib.hid (HD6.out.later hy)
    have HSZ7 := Lib.hid (Nat.le_trans HSZ.out hy.size)
    have r7 := text_run p7 hB7 rfl
    have cQ := stput_any T r m L1 _ HA7.out
    rw [HX.out] at cQ
    generalize hU : (⟨X.toArray⟩ : ByteArray) = U at *
    have HU := Lib.hid hU
    clear hy hU HA6 HD6 HSZ cQ2
    refine held_make_call (i := 12) (j := 14) (v := .string U) (by kernel_rfl) rfl rfl (by rfl) (by rfl) hHeld (by go_simp; try with_reducible rfl) (by go_simp; try with_reducible rfl) cQ ?_ ?_
    · simp only [Act.put, List.setIfInBounds_toArray, List.set_cons_zero, List.set_cons_succ]
      refine held_call (i := 14) (by kernel_rfl) rfl (by rfl) (by go_simp; try with_reducible rfl) (cQ) ?_
      rintro e wy ⟨A8, p8, rfl, hB8, _, _, hy⟩
      refine ⟨_, rfl, hHeld.trans (hy.mono hHeld.size), ?_⟩
      replace hHeld := hHeld.trans (hy.mono hHeld.size)
      simp only [Act.put, List.setIfInBounds_toArray, List.set_cons_zero, List.set_cons_succ]
      have HA8 := Lib.hid (HA7.out.later hy)
      have HD8 := Lib.hid (HD7.out.later hy)
      have HSZ8 := Lib.hid (Nat.le_trans HSZ7.out hy.size)
      have r8 := text_run p8 hB8 HU.out
      clear hy cQ r7 HA7 HD7 HSZ7
      refine held_read (i := 15) (v := ?_) (by kernel_rfl) rfl (by rfl) hHeld ?_ ?_
      rotate_left
      · go_simp; try with_reducible rfl
      simp only [Act.put, List.setIfInBounds_toArray, List.set_cons_zero, List.set_cons_succ]
      refine held_take (i := 16) (v := .bool false) rfl (by kernel_rfl) (by kernel_rfl) (by kernel_rfl) (fun _ _ _ h => h) (by rfl) hHeld ?_ ?_
      · intro wz hSz; (go_simp; first | done | rfl | simp)
      simp only [Act.put, List.setIfInBounds_toArray, List.set_cons_zero, List.set_cons_succ]
      refine held_take (i := 17) (v := .bool false) rfl (by kernel_rfl) (by kernel_rfl) (by kernel_rfl) (fun _ _ _ h => h) (by rfl) hHeld ?_ ?_
      · intro wz hSz; (go_simp; first | done | rfl | simp)
      simp only [Act.put, List.setIfInBounds_toArray, List.set_cons_zero, List.set_cons_succ]
      refine wpAnyH_done (by kernel_rfl) ?_ _
      go_wp2_with fail
      go_meet
      exact ⟨rfl, HA8, Lib.hid ⟨mm, HD8.out, HMM.out⟩, Lib.hid hHeld, HSZ8⟩
    · rintro e wy ⟨A8, p8, rfl, hB8, _, _, hy⟩
      refine ⟨_, rfl, hHeld.trans (hy.mono hHeld.size), ?_⟩
      replace hHeld := hHeld.trans (hy.mono hHeld.size)
      have HA8 := Lib.hid (HA7.out.later hy)
      have HD8 := Lib.hid (HD7.out.later hy)
      have HSZ8 := Lib.hid (Nat.le_trans HSZ7.out hy.size)
      have r9 := text_run p7 (hB7.below hy) HU.out
      have r8 := text_run p8 hB8 HU.out
      clear hy r7 cQ HA7 HD7 HSZ7
      simp only [Act.put, List.setIfInBounds_toArray, List.set_cons_zero, List.set_cons_succ]
      refine held_read_read (i := 12) (j := 15) (v := .string U) (v2 := .string U) (by kernel_rfl) rfl rfl (by rfl) (by rfl) hHeld (by go_simp; try with_reducible rfl) (by go_simp; try with_reducible rfl) ?_ ?_
      · simp only [Act.put, List.setIfInBounds_toArray, List.set_cons_zero, List.set_cons_succ]
        refine held_read (i := 15) (v := ?_) (by kernel_rfl) rfl (by rfl) hHeld ?_ ?_
        rotate_left
        · go_simp; try with_reducible rfl
        simp only [Act.put, List.setIfInBounds_toArray, List.set_cons_zero, List.set_cons_succ]
        refine held_take (i := 16) (v := .bool false) rfl (by kernel_rfl) (by kernel_rfl) (by kernel_rfl) (fun _ _ _ h => h) (by rfl) hHeld ?_ ?_
        · intro wz hSz; (go_simp; first | done | rfl | simp)
        simp only [Act.put, List.setIfInBounds_toArray, List.set_cons_zero, List.set_cons_succ]
        refine held_take (i := 17) (v := .bool false) rfl (by kernel_rfl) (by kernel_rfl) (by kernel_rfl) (fun _ _ _ h => h) (by rfl) hHeld ?_ ?_
        · intro wz hSz; (go_simp; first | done | rfl | simp)
        simp only [Act.put, List.setIfInBounds_toArray, List.set_cons_zero, List.set_cons_succ]
        refine wpAnyH_done (by kernel_rfl) ?_ _
        go_wp2_with fail
        go_meet
        exact ⟨rfl, HA8, Lib.hid ⟨mm, HD8.out, HMM.out⟩, Lib.hid hHeld, HSZ8⟩
      · simp only [Act.put, List.setIfInBounds_toArray, List.set_cons_zero, List.set_cons_succ]
        refine held_read (i := 12) (v := ?_) (by kernel_rfl) rfl (by rfl) hHeld ?_ ?_
        rotate_left
        · go_simp; try with_reducible rfl
        simp only [Act.put, List.setIfInBounds_toArray, List.set_cons_zero, List.set_cons_succ]
        refine held_take (i := 16) (v := .bool false) rfl (by kernel_rfl) (by kernel_rfl) (by kernel_rfl) (fun _ _ _ h => h) (by rfl) hHeld ?_ ?_
        · intro wz hSz; (go_simp; first | done | rfl | simp)
        simp only [Act.put, List.setIfInBounds_toArray, List.set_cons_zero, List.set_cons_succ]
        refine held_take (i := 17) (v := .bool false) rfl (by kernel_rfl) (by kernel_rfl) (by kernel_rfl) (fun _ _ _ h => h) (by rfl) hHeld ?_ ?_
        · intro wz hSz; (go_simp; first | done | rfl | simp)
        simp only [Act.put, List.setIfInBounds_toArray, List.set_cons_zero, List.set_cons_succ]
        refine wpAnyH_done (by kernel_rfl) ?_ _
        go_wp2_with fail
        go_meet
        exact ⟨rfl, HA8, Lib.hid ⟨mm, HD8.out, HMM.out⟩, Lib.hid hHeld, HSZ8⟩
  obtain ⟨rfl, HA6, HD6, HB6, HS6⟩ := hcut
  obtain ⟨mm, KD, hmm⟩ := HD6.out
  have HMM := Lib.hid (And.intro hmm KD.m.lt)
  have HDD := Lib.hid KD
  clear HD6 KD hmm HA5 HD5 HB5 HR
  have s0 := HS1.out
  have s1 := HS2.out
  have s3 := HS3.out
  have s4 := HS4.out
  have s5 := HS5.out
  have s6 := HS6.out
  have sM := HMM.out
  have kf : ∀ W, But2 wc.heap.size r wc W → Below w.heap.size wc W ∧ Tab W T2 mm m L1 := fun W hW => ⟨hW.below (by omega) (by omega) (by omega), HDD.out.other hW (by omega) (by omega) (by omega) (by omega)⟩
  have KF := Lib.hid kf
  have k1 := calls15_any T r m w.heap.size B Y d L1 wc HA6.out (by omega) (by omega) (HY.out.2.1.below HB6.out) HY.out.2.2 (fun W hW => HT.out.later (HB6.out.trans (kf W hW).1)) HY.out.1
  rw [HNY.out] at k1
  obtain ⟨L2, hL2⟩ : ∃ L2, runS m (Y.take 30) L1 = L2 := ⟨_, rfl⟩
  rw [hL2] at k1
  have HL2 := Lib.hid hL2
  clear hL2 s0 s1 s3 s4 s5 s6 sM kf
  go_wp2_with fail
  refine k1.mono ?_
  rintro e w7 ⟨rfl, K7, B7⟩
  have HA7 := Lib.hid K7
  have HD7 := Lib.hid (KF.out _ B7).2
  have HB7 := Lib.hid (HB6.out.trans (KF.out _ B7).1)
  have HS7 := Lib.hid B7.size
  clear k1 K7 B7 KF HA6 HB6 HDD
  have s0 := HS1.out
  have s1 := HS2.out
  have s3 := HS3.out
  have s4 := HS4.out
  have s5 := HS5.out
  have s6 := HS6.out
  have sM := HMM.out
  have s7 := HS7.out
  have kf : ∀ W, But2 w7.heap.size mm w7 W → Below w.heap.size w7 W ∧ Tab W T r m L2 := fun W hW => ⟨hW.below (by omega) (by omega) (by omega), HA7.out.other hW (by omega) (by omega) (by omega) (by omega)⟩
  have KF := Lib.hid kf
  have k1 := calls15_any T2 mm m w.heap.size B Y d L1 w7 HD7.out (by omega) (by omega) (HY.out.2.1.below HB7.out) HY.out.2.2 (fun W hW => HT.out.later (HB7.out.trans (kf W hW).1)) HY.out.1
  rw [HNY.out, HL2.out] at k1
  clear s0 s1 s3 s4 s5 s6 s7 sM kf
  go_wp2_with fail
  refine k1.mono ?_
  rintro e w8 ⟨rfl, K8, B8⟩
  have HD8 := Lib.hid K8
  have HA8 := Lib.hid (KF.out _ B8).2
  have HB8 := Lib.hid (HB7.out.trans (KF.out _ B8).1)
  clear k1 K8 B8 KF HA7 HB7 HD7
  obtain ⟨V, hV⟩ : ∃ V, tabB L2 = V := ⟨_, rfl⟩
  obtain ⟨I, hI⟩ : ∃ I, L2.map Se.id = I := ⟨_, rfl⟩
  have hIl : I.length = L2.length := by rw [← hI]; simp
  have hle : (I.length : Int) ≤ 1 + p := by have h1 := HA8.out.t.len; have := HM.out; omega
  have hi64 : I.length ≤ 64 := by have h1 := HA8.out.t.len; have h2 := HA8.out.t.hi; omega
  have HI64 := Lib.hid hi64
  have cPa := fun W (hW : Below w8.heap.size w8 W) => stput_any T r m L2 W (HA8.out.later hW)
  have cPb := fun W (hW : Below w8.heap.size w8 W) => stput_any T2 mm m L2 W (HD8.out.later hW)
  have cIa := fun W (hW : Below w8.heap.size w8 W) => stids_any T r m L2 W (HA8.out.later hW)
  have cIb := fun W (hW : Below w8.heap.size w8 W) => stids_any T2 mm m L2 W (HD8.out.later hW)
  rw [hV] at cPa cPb
  rw [hI] at cIa cIb
  generalize hU : (⟨V.toArray⟩ : ByteArray) = U at *
  have HU := Lib.hid hU
  clear hV hI hIl hU HA8 HD8 hi64
  go_upto_region 13 with fail
  refine wp_region_held_drew (S := fun w' => Below w8.heap.size w8 w') (by kernel_rfl) ((Below.refl _ _).drew) (fun hHeld => ?_)
  refine held_take (i := 0) (v := ?_) rfl (by kernel_rfl) (by kernel_rfl) (by kernel_rfl) (fun _ _ _ h => h) (by rfl) hHeld ?_ ?_
  rotate_left
  · intro wz hSz; go_simp; try with_reducible rfl
  simp only [Act.put, List.setIfInBounds_toArray, List.set_cons_zero, List.set_cons_succ]
  refine held_take (i := 3) (v := ?_) rfl (by kernel_rfl) (by kernel_rfl) (by kernel_rfl) (fun _ _ _ h => h) (by rfl) hHeld ?_ ?_
  rotate_left
  · intro wz hSz; go_simp; try with_reducible rfl
  simp only [Act.put, List.setIfInBounds_toArray, List.set_cons_zero, List.set_cons_succ]
  refine held_call (i := 1) (by kernel_rfl) rfl (by rfl) (by go_simp; try with_reducible rfl) ((cPa _ hHeld)) ?_
  rintro e wy ⟨A1, p1, rfl, hB1, _, _, hy⟩
  refine ⟨_, rfl, hHeld.trans (hy.mono hHeld.size), ?_⟩
  replace hHeld := hHeld.trans (hy.mono hHeld.size)
  simp only [Act.put, List.setIfInBounds_toArray, List.set_cons_zero, List.set_cons_succ]
  have r1 := text_run p1 hB1 HU.out
  clear hy cPa
  refine held_make_call (i := 2) (j := 4) (v := .string U) (by kernel_rfl) rfl rfl (by rfl) (by rfl) hHeld (by go_simp; try with_reducible rfl) (by go_simp; try with_reducible rfl) (cPb _ hHeld) ?_ ?_
  · simp only [Act.put, List.setIfInBounds_toArray, List.set_cons_zero, List.set_cons_succ]
    refine held_call (i := 4) (by kernel_rfl) rfl (by rfl) (by go_simp; try with_reducible rfl) ((cPb _ hHeld)) ?_
    rintro e wy ⟨A2, p2, rfl, hB2, _, _, hy⟩
    refine ⟨_, rfl, hHeld.trans (hy.mono hHeld.size), ?_⟩
    replace hHeld := hHeld.trans (hy.mono hHeld.size)
    simp only [Act.put, List.setIfInBounds_toArray, List.set_cons_zero, List.set_cons_succ]
    have r2 := text_run p2 hB2 HU.out
    clear hy cPb r1
    refine held_read (i := 5) (v := ?_) (by kernel_rfl) rfl (by rfl) hHeld ?_ ?_
    rotate_left
    · go_simp; try with_reducible rfl
    simp only [Act.put, List.setIfInBounds_toArray, List.set_cons_zero, List.set_cons_succ]
    clear r2
    refine held_take (i := 6) (v := .bool true) rfl (by kernel_rfl) (by kernel_rfl) (by kernel_rfl) (fun _ _ _ h => h) (by rfl) hHeld ?_ ?_
    · intro wz hSz; (go_simp; first | done | rfl | simp)
    simp only [Act.put, List.setIfInBounds_toArray, List.set_cons_zero, List.set_cons_succ]
    refine held_take (i := 7) (v := .bool true) rfl (by kernel_rfl) (by kernel_rfl) (by kernel_rfl) (fun _ _ _ h => h) (by rfl) hHeld ?_ ?_
    · intro wz hSz; (go_simp; first | done | rfl | simp)
    simp only [Act.put, List.setIfInBounds_toArray, List.set_cons_zero, List.set_cons_succ]
    refine held_take (i := 8) (v := ?_) rfl (by kernel_rfl) (by kernel_rfl) (by kernel_rfl) (fun _ _ _ h => h) (by rfl) hHeld ?_ ?_
    rotate_left
    · intro wz hSz; go_simp; try with_reducible rfl
    simp only [Act.put, List.setIfInBounds_toArray, List.set_cons_zero, List.set_cons_succ]
    refine held_take (i := 10) (v := ?_) rfl (by kernel_rfl) (by kernel_rfl) (by kernel_rfl) (fun _ _ _ h => h) (by rfl) hHeld ?_ ?_
    rotate_left
    · intro wz hSz; go_simp; try with_reducible rfl
    simp only [Act.put, List.setIfInBounds_toArray, List.set_cons_zero, List.set_cons_succ]
    refine held_call (i := 9) (by kernel_rfl) rfl (by rfl) (by go_simp; try with_reducible rfl) ((cIa _ hHeld)) ?_
    rintro e wy ⟨A4, p4, rfl, _, hI4, _, _, hy⟩
    refine ⟨_, rfl, hHeld.trans (hy.mono hHeld.size), ?_⟩
    replace hHeld := hHeld.trans (hy.mono hHeld.size)
    simp only [Act.put, List.setIfInBounds_toArray, List.set_cons_zero, List.set_cons_succ]
    have HI4 := Lib.hid hI4
    clear hy hI4
    refine held_call (i := 11) (by kernel_rfl) rfl (by rfl) (by go_simp; try with_reducible rfl) ((cIb _ hHeld)) ?_
    rintro e wy ⟨A5, p5, rfl, _, hI5, _, _, hy⟩
    refine ⟨_, rfl, hHeld.trans (hy.mono hHeld.size), ?_⟩
    replace hHeld := hHeld.trans (hy.mono hHeld.size)
    simp only [Act.put, List.setIfInBounds_toArray, List.set_cons_zero, List.set_cons_succ]
    have cS := same_self A4 A5 I p4 p5 _ HI64.out (HI4.out.below hy) hI5
    clear hy hI5 HI4
    refine held_call (i := 12) (by kernel_rfl) rfl (by rfl) (by go_simp; try with_reducible rfl) (cS) ?_
    rintro e wy ⟨rfl, hy⟩
    refine ⟨_, rfl, hHeld.trans (hy.mono hHeld.size), ?_⟩
    replace hHeld := hHeld.trans (hy.mono hHeld.size)
    simp only [Act.put, List.setIfInBounds_toArray, List.set_cons_zero, List.set_cons_succ]
    clear hy cS
    refine held_take (i := 13) (v := .bool true) rfl (by kernel_rfl) (by kernel_rfl) (by kernel_rfl) (fun _ _ _ h => h) (by rfl) hHeld ?_ ?_
    · intro wz hSz; (go_simp; first | done | rfl | simp)
    simp only [Act.put, List.setIfInBounds_toArray, List.set_cons_zero, List.set_cons_succ]
    refine held_take (i := 14) (v := .bool true) rfl (by kernel_rfl) (by kernel_rfl) (by kernel_rfl) (fun _ _ _ h => h) (by rfl) hHeld ?_ ?_
    · intro wz hSz; (go_simp; first | done | rfl | simp)
    simp only [Act.put, List.setIfInBounds_toArray, List.set_cons_zero, List.set_cons_succ]
    refine held_take (i := 15) (v := ?_) rfl (by kernel_rfl) (by kernel_rfl) (by kernel_rfl) (fun _ _ _ h => h) (by rfl) hHeld ?_ ?_
    rotate_left
    · intro wz hSz; go_simp; try with_reducible rfl
    simp only [Act.put, List.setIfInBounds_toArray, List.set_cons_zero, List.set_cons_succ]
    refine held_take (i := 18) (v := ?_) rfl (by kernel_rfl) (by kernel_rfl) (by kernel_rfl) (fun _ _ _ h => h) (by rfl) hHeld ?_ ?_
    rotate_left
    · intro wz hSz; go_simp; try with_reducible rfl
    simp only [Act.put, List.setIfInBounds_toArray, List.set_cons_zero, List.set_cons_succ]
    refine held_call (i := 16) (by kernel_rfl) rfl (by rfl) (by go_simp; try with_reducible rfl) ((cIa _ hHeld)) ?_
    rintro e wy ⟨A6, p6, rfl, _, hI6, _, _, hy⟩
    refine ⟨_, rfl, hHeld.trans (hy.mono hHeld.size), ?_⟩
    replace hHeld := hHeld.trans (hy.mono hHeld.size)
    simp only [Act.put, List.setIfInBounds_toArray, List.set_cons_zero, List.set_cons_succ]
    clear hy hI6
    refine held_take (i := 17) (v := ?_) rfl (by kernel_rfl) (by kernel_rfl) (by kernel_rfl) (fun _ _ _ h => h) (by rfl) hHeld ?_ ?_
    rotate_left
    · intro wz hSz; go_simp; try with_reducible rfl
    simp only [Act.put, List.setIfInBounds_toArray, List.set_cons_zero, List.set_cons_succ]
    refine held_take (i := 19) (v := .bool true) rfl (by kernel_rfl) (by kernel_rfl) (by kernel_rfl) (fun _ _ _ h => h) (by rfl) hHeld ?_ ?_
    · intro wz hSz; (go_simp; first | done | rfl | exact decide_eq_true hle | simp [hle])
    simp only [Act.put, List.setIfInBounds_toArray, List.set_cons_zero, List.set_cons_succ]
    refine held_take (i := 20) (v := .bool true) rfl (by kernel_rfl) (by kernel_rfl) (by kernel_rfl) (fun _ _ _ h => h) (by rfl) hHeld ?_ ?_
    · intro wz hSz; (go_simp; first | done | rfl | simp)
    simp only [Act.put, List.setIfInBounds_toArray, List.set_cons_zero, List.set_cons_succ]
    refine held_take (i := 21) (v := .bool true) rfl (by kernel_rfl) (by kernel_rfl) (by kernel_rfl) (fun _ _ _ h => h) (by rfl) hHeld ?_ ?_
    · intro wz hSz; (go_simp; first | done | rfl | simp)
    simp only [Act.put, List.setIfInBounds_toArray, List.set_cons_zero, List.set_cons_succ]
    refine held_call (i := 22) (by kernel_rfl) rfl (by rfl) (by go_simp; try with_reducible rfl) ((stawake_any _)) ?_
    rintro e wy ⟨rfl, hy⟩
    refine ⟨_, rfl, hHeld.trans (hy.mono hHeld.size), ?_⟩
    replace hHeld := hHeld.trans (hy.mono hHeld.size)
    simp only [Act.put, List.setIfInBounds_toArray, List.set_cons_zero, List.set_cons_succ]
    refine held_take (i := 23) (v := ?_) rfl (by kernel_rfl) (by kernel_rfl) (by kernel_rfl) (fun _ _ _ h => h) (by rfl) hHeld ?_ ?_
    rotate_left
    · intro wz hSz; go_simp; try with_reducible rfl
    simp only [Act.put, List.setIfInBounds_toArray, List.set_cons_zero, List.set_cons_succ]
    refine held_take (i := 24) (v := ?_) rfl (by kernel_rfl) (by kernel_rfl) (by kernel_rfl) (fun _ _ _ h => h) (by rfl) hHeld ?_ ?_
    rotate_left
    · intro wz hSz; go_simp; try with_reducible rfl
    simp only [Act.put, List.setIfInBounds_toArray, List.set_cons_zero, List.set_cons_succ]
    refine wpAnyH_done (by kernel_rfl) ?_ _
    go_wp2
    go_ret
    exact ⟨rfl, HB8.out.trans (hHeld.mono HB8.out.size)⟩
  · rintro e wy ⟨A2, p2, rfl, hB2, _, _, hy⟩
    refine ⟨_, rfl, hHeld.trans (hy.mono hHeld.size), ?_⟩
    replace hHeld := hHeld.trans (hy.mono hHeld.size)
    have r3 := text_run p1 (hB1.below hy) HU.out
    have r2 := text_run p2 hB2 HU.out
    clear hy r1 cPb
    simp only [Act.put, List.setIfInBounds_toArray, List.set_cons_zero, List.set_cons_succ]
    refine held_read_read (i := 2) (j := 5) (v := .string U) (v2 := .string U) (by kernel_rfl) rfl rfl (by rfl) (by rfl) hHeld (by go_simp; try with_reducible rfl) (by go_simp; try with_reducible rfl) ?_ ?_
    · simp only [Act.put, List.setIfInBounds_toArray, List.set_cons_zero, List.set_cons_succ]
      refine held_read (i := 5) (v := ?_) (by kernel_rfl) rfl (by rfl) hHeld ?_ ?_
      rotate_left
      · go_simp; try with_reducible rfl
      simp only [Act.put, List.setIfInBounds_toArray, List.set_cons_zero, List.set_cons_succ]
      clear r2 r3
      refine held_take (i := 6) (v := .bool true) rfl (by kernel_rfl) (by kernel_rfl) (by kernel_rfl) (fun _ _ _ h => h) (by rfl) hHeld ?_ ?_
      · intro wz hSz; (go_simp; first | done | rfl | simp)
      simp only [Act.put, List.setIfInBounds_toArray, List.set_cons_zero, List.set_cons_succ]
      refine held_take (i := 7) (v := .bool true) rfl (by kernel_rfl) (by kernel_rfl) (by kernel_rfl) (fun _ _ _ h => h) (by rfl) hHeld ?_ ?_
      · intro wz hSz; (go_simp; first | done | rfl | simp)
      simp only [Act.put, List.setIfInBounds_toArray, List.set_cons_zero, List.set_cons_succ]
      refine held_take (i := 8) (v := ?_) rfl (by kernel_rfl) (by kernel_rfl) (by kernel_rfl) (fun _ _ _ h => h) (by rfl) hHeld ?_ ?_
      rotate_left
      · intro wz hSz; go_simp; try with_reducible rfl
      simp only [Act.put, List.setIfInBounds_toArray, List.set_cons_zero, List.set_cons_succ]
      refine held_take (i := 10) (v := ?_) rfl (by kernel_rfl) (by kernel_rfl) (by kernel_rfl) (fun _ _ _ h => h) (by rfl) hHeld ?_ ?_
      rotate_left
      · intro wz hSz; go_simp; try with_reducible rfl
      simp only [Act.put, List.setIfInBounds_toArray, List.set_cons_zero, List.set_cons_succ]
      refine held_call (i := 9) (by kernel_rfl) rfl (by rfl) (by go_simp; try with_reducible rfl) ((cIa _ hHeld)) ?_
      rintro e wy ⟨A4, p4, rfl, _, hI4, _, _, hy⟩
      refine ⟨_, rfl, hHeld.trans (hy.mono hHeld.size), ?_⟩
      replace hHeld := hHeld.trans (hy.mono hHeld.size)
      simp only [Act.put, List.setIfInBounds_toArray, List.set_cons_zero, List.set_cons_succ]
      have HI4 := Lib.hid hI4
      clear hy hI4
      refine held_call (i := 11) (by kernel_rfl) rfl (by rfl) (by go_simp; try with_reducible rfl) ((cIb _ hHeld)) ?_
      rintro e wy ⟨A5, p5, rfl, _, hI5, _, _, hy⟩
      refine ⟨_, rfl, hHeld.trans (hy.mono hHeld.size), ?_⟩
      replace hHeld := hHeld.trans (hy.mono hHeld.size)
      simp only [Act.put, List.setIfInBounds_toArray, List.set_cons_zero, List.set_cons_succ]
      have cS := same_self A4 A5 I p4 p5 _ HI64.out (HI4.out.below hy) hI5
      clear hy hI5 HI4
      refine held_call (i := 12) (by kernel_rfl) rfl (by rfl) (by go_simp; try with_reducible rfl) (cS) ?_
      rintro e wy ⟨rfl, hy⟩
      refine ⟨_, rfl, hHeld.trans (hy.mono hHeld.size), ?_⟩
      replace hHeld := hHeld.trans (hy.mono hHeld.size)
      simp only [Act.put, List.setIfInBounds_toArray, List.set_cons_zero, List.set_cons_succ]
      clear hy cS
      refine held_take (i := 13) (v := .bool true) rfl (by kernel_rfl) (by kernel_rfl) (by kernel_rfl) (fun _ _ _ h => h) (by rfl) hHeld ?_ ?_
      · intro wz hSz; (go_simp; first | done | rfl | simp)
      simp only [Act.put, List.setIfInBounds_toArray, List.set_cons_zero, List.set_cons_succ]
      refine held_take (i := 14) (v := .bool true) rfl (by kernel_rfl) (by kernel_rfl) (by kernel_rfl) (fun _ _ _ h => h) (by rfl) hHeld ?_ ?_
      · intro wz hSz; (go_simp; first | done | rfl | simp)
      simp only [Act.put, List.setIfInBounds_toArray, List.set_cons_zero, List.set_cons_succ]
      refine held_take (i := 15) (v := ?_) rfl (by kernel_rfl) (by kernel_rfl) (by kernel_rfl) (fun _ _ _ h => h) (by rfl) hHeld ?_ ?_
      rotate_left
      · intro wz hSz; go_simp; try with_reducible rfl
      simp only [Act.put, List.setIfInBounds_toArray, List.set_cons_zero, List.set_cons_succ]
      refine held_take (i := 18) (v := ?_) rfl (by kernel_rfl) (by kernel_rfl) (by kernel_rfl) (fun _ _ _ h => h) (by rfl) hHeld ?_ ?_
      rotate_left
      · intro wz hSz; go_simp; try with_reducible rfl
      simp only [Act.put, List.setIfInBounds_toArray, List.set_cons_zero, List.set_cons_succ]
      refine held_call (i := 16) (by kernel_rfl) rfl (by rfl) (by go_simp; try with_reducible rfl) ((cIa _ hHeld)) ?_
      rintro e wy ⟨A6, p6, rfl, _, hI6, _, _, hy⟩
      refine ⟨_, rfl, hHeld.trans (hy.mono hHeld.size), ?_⟩
      replace hHeld := hHeld.trans (hy.mono hHeld.size)
      simp only [Act.put, List.setIfInBounds_toArray, List.set_cons_zero, List.set_cons_succ]
      clear hy hI6
      refine held_take (i := 17) (v := ?_) rfl (by kernel_rfl) (by kernel_rfl) (by kernel_rfl) (fun _ _ _ h => h) (by rfl) hHeld ?_ ?_
      rotate_left
      · intro wz hSz; go_simp; try with_reducible rfl
      simp only [Act.put, List.setIfInBounds_toArray, List.set_cons_zero, List.set_cons_succ]
      refine held_take (i := 19) (v := .bool true) rfl (by kernel_rfl) (by kernel_rfl) (by kernel_rfl) (fun _ _ _ h => h) (by rfl) hHeld ?_ ?_
      · intro wz hSz; (go_simp; first | done | rfl | exact decide_eq_true hle | simp [hle])
      simp only [Act.put, List.setIfInBounds_toArray, List.set_cons_zero, List.set_cons_succ]
      refine held_take (i := 20) (v := .bool true) rfl (by kernel_rfl) (by kernel_rfl) (by kernel_rfl) (fun _ _ _ h => h) (by rfl) hHeld ?_ ?_
      · intro wz hSz; (go_simp; first | done | rfl | simp)
      simp only [Act.put, List.setIfInBounds_toArray, List.set_cons_zero, List.set_cons_succ]
      refine held_take (i := 21) (v := .bool true) rfl (by kernel_rfl) (by kernel_rfl) (by kernel_rfl) (fun _ _ _ h => h) (by rfl) hHeld ?_ ?_
      · intro wz hSz; (go_simp; first | done | rfl | simp)
      simp only [Act.put, List.setIfInBounds_toArray, List.set_cons_zero, List.set_cons_succ]
      refine held_call (i := 22) (by kernel_rfl) rfl (by rfl) (by go_simp; try with_reducible rfl) ((stawake_any _)) ?_
      rintro e wy ⟨rfl, hy⟩
      refine ⟨_, rfl, hHeld.trans (hy.mono hHeld.size), ?_⟩
      replace hHeld := hHeld.trans (hy.mono hHeld.size)
      simp only [Act.put, List.setIfInBounds_toArray, List.set_cons_zero, List.set_cons_succ]
      refine held_take (i := 23) (v := ?_) rfl (by kernel_rfl) (by kernel_rfl) (by kernel_rfl) (fun _ _ _ h => h) (by rfl) hHeld ?_ ?_
      rotate_left
      · intro wz hSz; go_simp; try with_reducible rfl
      simp only [Act.put, List.setIfInBounds_toArray, List.set_cons_zero, List.set_cons_succ]
      refine held_take (i := 24) (v := ?_) rfl (by kernel_rfl) (by kernel_rfl) (by kernel_rfl) (fun _ _ _ h => h) (by rfl) hHeld ?_ ?_
      rotate_left
      · intro wz hSz; go_simp; try with_reducible rfl
      simp only [Act.put, List.setIfInBounds_toArray, List.set_cons_zero, List.set_cons_succ]
      refine wpAnyH_done (by kernel_rfl) ?_ _
      go_wp2
      go_ret
      exact ⟨rfl, HB8.out.trans (hHeld.mono HB8.out.size)⟩
    · simp only [Act.put, List.setIfInBounds_toArray, List.set_cons_zero, List.set_cons_succ]
      refine held_read (i := 2) (v := ?_) (by kernel_rfl) rfl (by rfl) hHeld ?_ ?_
      rotate_left
      · go_simp; try with_reducible rfl
      simp only [Act.put, List.setIfInBounds_toArray, List.set_cons_zero, List.set_cons_succ]
      clear r2 r3
      refine held_take (i := 6) (v := .bool true) rfl (by kernel_rfl) (by kernel_rfl) (by kernel_rfl) (fun _ _ _ h => h) (by rfl) hHeld ?_ ?_
      · intro wz hSz; (go_simp; first | done | rfl | simp)
      simp only [Act.put, List.setIfInBounds_toArray, List.set_cons_zero, List.set_cons_succ]
      refine held_take (i := 7) (v := .bool true) rfl (by kernel_rfl) (by kernel_rfl) (by kernel_rfl) (fun _ _ _ h => h) (by rfl) hHeld ?_ ?_
      · intro wz hSz; (go_simp; first | done | rfl | simp)
      simp only [Act.put, List.setIfInBounds_toArray, List.set_cons_zero, List.set_cons_succ]
      refine held_take (i := 8) (v := ?_) rfl (by kernel_rfl) (by kernel_rfl) (by kernel_rfl) (fun _ _ _ h => h) (by rfl) hHeld ?_ ?_
      rotate_left
      · intro wz hSz; go_simp; try with_reducible rfl
      simp only [Act.put, List.setIfInBounds_toArray, List.set_cons_zero, List.set_cons_succ]
      refine held_take (i := 10) (v := ?_) rfl (by kernel_rfl) (by kernel_rfl) (by kernel_rfl) (fun _ _ _ h => h) (by rfl) hHeld ?_ ?_
      rotate_left
      · intro wz hSz; go_simp; try with_reducible rfl
      simp only [Act.put, List.setIfInBounds_toArray, List.set_cons_zero, List.set_cons_succ]
      refine held_call (i := 9) (by kernel_rfl) rfl (by rfl) (by go_simp; try with_reducible rfl) ((cIa _ hHeld)) ?_
      rintro e wy ⟨A4, p4, rfl, _, hI4, _, _, hy⟩
      refine ⟨_, rfl, hHeld.trans (hy.mono hHeld.size), ?_⟩
      replace hHeld := hHeld.trans (hy.mono hHeld.size)
      simp only [Act.put, List.setIfInBounds_toArray, List.set_cons_zero, List.set_cons_succ]
      have HI4 := Lib.hid hI4
      clear hy hI4
      refine held_call (i := 11) (by kernel_rfl) rfl (by rfl) (by go_simp; try with_reducible rfl) ((cIb _ hHeld)) ?_
      rintro e wy ⟨A5, p5, rfl, _, hI5, _, _, hy⟩
      refine ⟨_, rfl, hHeld.trans (hy.mono hHeld.size), ?_⟩
      replace hHeld := hHeld.trans (hy.mono hHeld.size)
      simp only [Act.put, List.setIfInBounds_toArray, List.set_cons_zero, List.set_cons_succ]
      have cS := same_self A4 A5 I p4 p5 _ HI64.out (HI4.out.below hy) hI5
      clear hy hI5 HI4
      refine held_call (i := 12) (by kernel_rfl) rfl (by rfl) (by go_simp; try with_reducible rfl) (cS) ?_
      rintro e wy ⟨rfl, hy⟩
      refine ⟨_, rfl, hHeld.trans (hy.mono hHeld.size), ?_⟩
      replace hHeld := hHeld.trans (hy.mono hHeld.size)
      simp only [Act.put, List.setIfInBounds_toArray, List.set_cons_zero, List.set_cons_succ]
      clear hy cS
      refine held_take (i := 13) (v := .bool true) rfl (by kernel_rfl) (by kernel_rfl) (by kernel_rfl) (fun _ _ _ h => h) (by rfl) hHeld ?_ ?_
      · intro wz hSz; (go_simp; first | done | rfl | simp)
      simp only [Act.put, List.setIfInBounds_toArray, List.set_cons_zero, List.set_cons_succ]
      refine held_take (i := 14) (v := .bool true) rfl (by kernel_rfl) (by kernel_rfl) (by kernel_rfl) (fun _ _ _ h => h) (by rfl) hHeld ?_ ?_
      · intro wz hSz; (go_simp; first | done | rfl | simp)
      simp only [Act.put, List.setIfInBounds_toArray, List.set_cons_zero, List.set_cons_succ]
      refine held_take (i := 15) (v := ?_) rfl (by kernel_rfl) (by kernel_rfl) (by kernel_rfl) (fun _ _ _ h => h) (by rfl) hHeld ?_ ?_
      rotate_left
      · intro wz hSz; go_simp; try with_reducible rfl
      simp only [Act.put, List.setIfInBounds_toArray, List.set_cons_zero, List.set_cons_succ]
      refine held_take (i := 18) (v := ?_) rfl (by kernel_rfl) (by kernel_rfl) (by kernel_rfl) (fun _ _ _ h => h) (by rfl) hHeld ?_ ?_
      rotate_left
      · intro wz hSz; go_simp; try with_reducible rfl
      simp only [Act.put, List.setIfInBounds_toArray, List.set_cons_zero, List.set_cons_succ]
      refine held_call (i := 16) (by kernel_rfl) rfl (by rfl) (by go_simp; try with_reducible rfl) ((cIa _ hHeld)) ?_
      rintro e wy ⟨A6, p6, rfl, _, hI6, _, _, hy⟩
      refine ⟨_, rfl, hHeld.trans (hy.mono hHeld.size), ?_⟩
      replace hHeld := hHeld.trans (hy.mono hHeld.size)
      simp only [Act.put, List.setIfInBounds_toArray, List.set_cons_zero, List.set_cons_succ]
      clear hy hI6
      refine held_take (i := 17) (v := ?_) rfl (by kernel_rfl) (by kernel_rfl) (by kernel_rfl) (fun _ _ _ h => h) (by rfl) hHeld ?_ ?_
      rotate_left
      · intro wz hSz; go_simp; try with_reducible rfl
      simp only [Act.put, List.setIfInBounds_toArray, List.set_cons_zero, List.set_cons_succ]
      refine held_take (i := 19) (v := .bool true) rfl (by kernel_rfl) (by kernel_rfl) (by kernel_rfl) (fun _ _ _ h => h) (by rfl) hHeld ?_ ?_
      · intro wz hSz; (go_simp; first | done | rfl | exact decide_eq_true hle | simp [hle])
      simp only [Act.put, List.setIfInBounds_toArray, List.set_cons_zero, List.set_cons_succ]
      refine held_take (i := 20) (v := .bool true) rfl (by kernel_rfl) (by kernel_rfl) (by kernel_rfl) (fun _ _ _ h => h) (by rfl) hHeld ?_ ?_
      · intro wz hSz; (go_simp; first | done | rfl | simp)
      simp only [Act.put, List.setIfInBounds_toArray, List.set_cons_zero, List.set_cons_succ]
      refine held_take (i := 21) (v := .bool true) rfl (by kernel_rfl) (by kernel_rfl) (by kernel_rfl) (fun _ _ _ h => h) (by rfl) hHeld ?_ ?_
      · intro wz hSz; (go_simp; first | done | rfl | simp)
      simp only [Act.put, List.setIfInBounds_toArray, List.set_cons_zero, List.set_cons_succ]
      refine held_call (i := 22) (by kernel_rfl) rfl (by rfl) (by go_simp; try with_reducible rfl) ((stawake_any _)) ?_
      rintro e wy ⟨rfl, hy⟩
      refine ⟨_, rfl, hHeld.trans (hy.mono hHeld.size), ?_⟩
      replace hHeld := hHeld.trans (hy.mono hHeld.size)
      simp only [Act.put, List.setIfInBounds_toArray, List.set_cons_zero, List.set_cons_succ]
      refine held_take (i := 23) (v := ?_) rfl (by kernel_rfl) (by kernel_rfl) (by kernel_rfl) (fun _ _ _ h => h) (by rfl) hHeld ?_ ?_
      rotate_left
      · intro wz hSz; go_simp; try with_reducible rfl
      simp only [Act.put, List.setIfInBounds_toArray, List.set_cons_zero, List.set_cons_succ]
      refine held_take (i := 24) (v := ?_) rfl (by kernel_rfl) (by kernel_rfl) (by kernel_rfl) (fun _ _ _ h => h) (by rfl) hHeld ?_ ?_
      rotate_left
      · intro wz hSz; go_simp; try with_reducible rfl
      simp only [Act.put, List.setIfInBounds_toArray, List.set_cons_zero, List.set_cons_succ]
      refine wpAnyH_done (by kernel_rfl) ?_ _
      go_wp2
      go_ret
      exact ⟨rfl, HB8.out.trans (hHeld.mono HB8.out.size)⟩
end Go.Proofs.YtindkpfmflcibaaDoor
