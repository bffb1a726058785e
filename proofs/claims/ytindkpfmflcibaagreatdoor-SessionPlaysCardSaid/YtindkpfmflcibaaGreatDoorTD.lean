/- Several texts in one: Tw, Td. -/
import Derived.Test.YtindkpfmflcibaaGreatDoorRA
import Derived.Test.YtindkpfmflcibaaGreatDoorRB
import Derived.Test.YtindkpfmflcibaaGreatDoorSV
import Derived.Test.YtindkpfmflcibaaGreatDoorSA
import Derived.Test.YtindkpfmflcibaaGreatDoorMHeld2
import Derived.Test.YtindkpfmflcibaaGreatDoorRC
import Derived.Test.YtindkpfmflcibaaGreatDoorSE
import Derived.Test.YtindkpfmflcibaaGreatDoorMSsD
import Derived.Test.YtindkpfmflcibaaGreatDoorMSsP
import Derived.Test.YtindkpfmflcibaaGreatDoorBP
import Derived.Deep.CutRange
import Derived.BigQuiet
import Derived.Deep.QuietTactic
namespace Go.Proofs.YtindkpfmflcibaaGreatDoor
/- The program's table and the document's, alike; the law's same. -/
section
open Go.RowKit Go.Maps Go.Sort Go.Shelf
set_option linter.unusedSimpArgs false

/-- Both tables hold the same sessions, apart from one another, above what there was. -/
structure Twin (w : World) (B T r most Tw : Nat) (v : Value) (L : List Se) : Prop where
  tab : Tab w T r most L
  rt : RT w B Tw most v L
  bT : B ≤ T
  br : B ≤ r
  n1 : T ≠ Tw
  n2 : r ≠ Tw
  n3 : ∀ k, v.ownBlock = some k → k ≠ T ∧ k ≠ r
theorem Twin.later {w w' : World} {B T r most Tw : Nat} {v : Value} {L : List Se} (h : Twin w B T r most Tw v L) (hb : Below w.heap.size w w') : Twin w' B T r most Tw v L :=
  ⟨h.tab.later hb, h.rt.later hb, h.bT, h.br, h.n1, h.n2, h.n3⟩
theorem Twin.step {w w1 w2 : World} {B T r r1 most Tw : Nat} {v : Value} {L L1 : List Se} (h : Twin w B T r most Tw v L) (hT : Tab w1 T r1 most L1) (hb : Below B w w1) (hs : w.heap.size ≤ w1.heap.size) (hr1 : r1 = r ∨ w.heap.size ≤ r1) (h2 : RtTo w1 B Tw most v L1 w2) : (∃ v', Twin w2 B T r1 most Tw v' L1) ∧ Below B w w2 := by
  obtain ⟨v', hR', hb2, hf⟩ := h2
  have hTw := h.rt.blk.lt
  have hTl := h.tab.lt
  have hrl := h.tab.m.lt
  have hBT := h.rt.ge
  have hbk : ∀ k, v.ownBlock = some k → k < w.heap.size ∧ B ≤ k := fun k hk => ⟨(h.rt.row.lt k hk).2, (h.rt.row.lt k hk).1⟩
  have hne : T ≠ v.ownBlock.getD Tw ∧ r1 ≠ v.ownBlock.getD Tw ∧ B ≤ v.ownBlock.getD Tw := by
    cases hv : v.ownBlock with
    | none => refine ⟨h.n1, ?_, hBT⟩; rcases hr1 with rfl | hr1; exact h.n2; show r1 ≠ Tw; omega
    | some k =>
      have h3 := h.n3 k hv
      have h4 := hbk k hv
      refine ⟨h3.1.symm, ?_, h4.2⟩
      rcases hr1 with rfl | hr1
      · exact h3.2.symm
      · show r1 ≠ k; omega
  have hr2 : r1 ≠ Tw := by
    rcases hr1 with rfl | hr1
    · exact h.n2
    · omega
  refine ⟨⟨v', hT.other hb2 h.n1 hne.1 hr2 hne.2.1, hR', h.bT, by rcases hr1 with rfl | hr1; exact h.br; have := hb.size; omega, h.n1, hr2, fun k hk => ?_⟩, hb.trans (hb2.below hBT hne.2.2 (by omega))⟩
  rcases hf k hk with h5 | h5
  · have h3 := h.n3 k h5
    have h4 := hbk k h5
    refine ⟨h3.1, ?_⟩
    rcases hr1 with rfl | hr1
    · exact h3.2
    · omega
  · have := hT.lt
    have := hT.m.lt
    omega
/-- A list of numbers of the call's own. -/
structure IdsR (w wx : World) (v : Value) (Z : List Int) : Prop where
  row : wx.ownsRow w.heap.size 3 1 v Z.length (Ss.zs Z)
  nil : Z = [] → v = .slice none 0 0
theorem IdsR.later {w x y : World} {v : Value} {Z : List Int} (h : IdsR w x v Z) (hb : Below x.heap.size x y) : IdsR w y v Z := ⟨Ss.own_later h.row hb, h.nil⟩
theorem same_self (A B : Option Addr) (X : List Int) (ca cb : Nat) (w : World) (hl : X.length ≤ 64) (hA : Is w A X) (hB : Is w B X) :
    Calls Tryz.prog 11 #[.slice A X.length ca, .slice B X.length cb] w fun e w' => e = .returned (.bool true) ∧ Below w.heap.size w w' := by
  have c := Ss.same_any A B X X ca cb w (by omega) hA hB
  rwa [decide_eq_true rfl] at c
set_option maxHeartbeats 8000000 in
set_option maxRecDepth 100000 in
theorem tsame_any (B T r most Tw : Nat) (v : Value) (L : List Se) (w : World) (h : Twin w B T r most Tw v L) :
    Calls Tryz.prog 8 #[.pointer (some ⟨T, 0, none⟩), .pointer (some ⟨Tw, 0, none⟩)] w fun e w' => e = .returned (.bool true) ∧ Below w.heap.size w w' := by
  have hl : L.length ≤ 64 := Nat.le_trans h.tab.t.len h.tab.t.hi
  obtain ⟨A, cap, hv, hcap⟩ := h.rt.slice
  have HK := Lib.hid h
  have HV := Lib.hid hv
  have HU := Lib.hid h.tab.t
  obtain ⟨i0, hi, hi0, hi1, hi2⟩ := info_parts Ss.info_int
  obtain ⟨n, hn⟩ : ∃ n, L.length = n := ⟨_, rfl⟩
  have HN := Lib.hid hn
  rw [hn] at hl hcap
  have HC := Lib.hid (fun W (hW : Below w.heap.size w W) => (HK.out.later hW).rt.cells)
  have H0 : Hid (IdsR w w (.slice none 0 0) ((L.take 0).map Se.id)) := Lib.hid ⟨World.ownsRow_nil _ _ _ _, fun _ => rfl⟩
  clear h hn hv
  go_enter Tryz.func8, Tryz.ntmps8
  go_wp2_with fail
  go_loopg [5, 6] (n) (fun m s5 s6 wr => ∃ k : Nat, k + m = n ∧ s6 = .int .i64 (k : Int) ∧ Hid (IdsR w wr s5 ((L.take k).map Se.id)) ∧ Hid (Below w.heap.size w wr))
  case atStart => exact ⟨0, by omega, rfl, H0, Lib.hid (Below.refl _ _)⟩
  case round =>
    obtain ⟨k, hkm, rfl, HO, HW⟩ := hrel
    have HKM := Lib.hid hkm
    clear H0
    obtain ⟨hTl, c0, -, -⟩ := HC.out wr HW.out
    rw [HV.out, HN.out] at c0
    by_cases hk : k < n
    · have hkz : (k : Int) < (n : Int) := by omega
      have hkl : k < L.length := by rw [HN.out]; exact hk
      obtain ⟨g, cp, hA⟩ := (HK.out.later HW.out).rt.at hkl
      obtain ⟨hv, -, hlt, x0, -, -, -, -, -, -, -, -⟩ := hA
      rw [HV.out, HN.out] at hv
      injection hv with hA _ hc
      subst hA hc
      obtain ⟨s, hs⟩ : ∃ s, L[k] = s := ⟨_, rfl⟩
      rw [hs] at x0
      have hfd : findS s.id L = some s := by rw [← hs]; exact findS_of HU.out.up (List.getElem_mem hkl) rfl
      have HFD := Lib.hid hfd
      have HLS := Lib.hid hs
      have HSN : Hid ((L.take (k + 1)).map Se.id = (L.take k).map Se.id ++ [s.id]) := Lib.hid (by rw [List.take_add_one, List.getElem?_eq_getElem hkl, hs]; simp)
      have hll : Hid (((L.take k).map Se.id).length + 1 ≤ 1000) := Lib.hid (by rw [List.length_map, List.length_take]; omega)
      have bz := Ss.below_alloc wr (.cells #[.int .i64 s.id] 3)
      have HOz := Lib.hid (Ss.own_later HO.out.row bz)
      have HIz : Hid (Is (wr.alloc (.cells #[.int .i64 s.id] 3)) (some ⟨wr.heap.size, 0, none⟩) [s.id]) := Lib.hid (fun _ => ⟨wr.heap.size, 0, rfl, fun j hj => by
        have : j = 0 := by simp at hj; omega
        subst this
        rw [Nat.zero_add, cell_of_row _ _ 0 _ _ _ (heap_alloc_new wr _)]; rfl⟩)
      have HWz := Lib.hid (HW.out.trans (bz.mono HW.out.size))
      clear hfd hs hkm bz
      go_upto_region 5 with fail
      go_upto_region 6 with (at_builtin; refine Ss.wpList_app_src rfl (.tmp 19) (.tmp 28) 49 3 rfl i0 Tryz.underlying49 hi hi0 hi1 hi2 ((L.take k).map Se.id) [s.id] hll.out w.heap.size HWz.out.size _ HOz.out HO.out.nil rfl (some ⟨wr.heap.size, 0, none⟩) 1 1 rfl rfl HIz.out ?_; intro v5 w5 h5)
      have HW5 := Lib.hid (h5.1.below HWz.out)
      have HO5 : Hid (IdsR w w5 v5 ((L.take (k + 1)).map Se.id)) := Lib.hid (by rw [HSN.out]; exact ⟨h5.2.1, h5.2.2.1⟩)
      have HK5 := Lib.hid (HK.out.later HW5.out)
      obtain ⟨hTl5, d0, -, -⟩ := HK5.out.rt.cells
      rw [HV.out, HN.out] at d0
      obtain ⟨g', cp', hA⟩ := HK5.out.rt.at hkl
      obtain ⟨hv, -, hlt5, z0, -, -, -, -, -, -, -, -⟩ := hA
      rw [HV.out, HN.out] at hv
      injection hv with hA _ hc
      injection hA with hA
      injection hA with hA
      subst hA hc
      rw [HLS.out] at z0
      have cL := stlast_any T r most L s.id w5 HK5.out.tab
      have eq1 : seqOf s.id L = s.seq := by unfold seqOf; rw [HFD.out]
      have eq2 : repOf s.id L = s.r := by unfold repOf; rw [HFD.out]
      rw [eq1, eq2, HFD.out] at cL
      clear h5 x0 c0 hTl hlt HOz HIz HWz HO eq1 eq2
      go_wp2_with fail
      refine cL.mono ?_
      rintro e w6 ⟨rfl, b6⟩
      have HW6 := Lib.hid (HW5.out.trans (b6.mono HW5.out.size))
      have HO6 : Hid (IdsR w w6 v5 ((L.take (k + 1)).map Se.id)) := Lib.hid ⟨Ss.own_later HO5.out.row b6, HO5.out.nil⟩
      clear b6 cL d0 z0 hTl5 hlt5 HO5 HK5
      obtain ⟨id, us, sq, r0⟩ := s
      obtain ⟨ex, nx, kx, mx, tx⟩ := r0
      dsimp only at *
      have b7 := Ss.below_alloc w6 (.cells (cs5 ex nx kx mx tx) 34)
      have HP7 := Lib.hid (Blk.new w6 (cs5 ex nx kx mx tx) 34)
      have HW7 := Lib.hid (HW6.out.trans (b7.mono HW6.out.size))
      have HO7 : Hid (IdsR w (w6.alloc (.cells (cs5 ex nx kx mx tx) 34)) v5 ((L.take (k + 1)).map Se.id)) := Lib.hid ⟨Ss.own_later HO6.out.row b7, HO6.out.nil⟩
      clear b7
      go_upto_region 7 with fail
      generalize hw7 : w6.alloc (.cells (cs5 ex nx kx mx tx) 34) = w7 at *
      obtain ⟨G, hG⟩ : ∃ G, w6.heap.size = G := ⟨_, rfl⟩
      rw [hG] at HP7
      try rw [hG]
      clear hw7 hG
      go_cut [69] from 10 to 69 (fun s69 wx => s69 = .bool false ∧ ∃ q, wx = w7.drewN q)
      case first =>
        obtain ⟨hGl, y0, y1, y2, y3, y4⟩ := HP7.out.c5
        obtain ⟨hTl7, d0, -, -⟩ := (HK.out.later HW7.out).rt.cells
        rw [HV.out, HN.out] at d0
        obtain ⟨g', cp', hA⟩ := (HK.out.later HW7.out).rt.at hkl
        obtain ⟨hv, -, hlt7, z0, z1, z2, z3, z4, z5, z6, z7, -⟩ := hA
        rw [HV.out, HN.out] at hv
        injection hv with hA _ hc
        injection hA with hA
        injection hA with hA
        subst hA hc
        rw [HLS.out] at z0 z1 z2 z3 z4 z5 z6 z7
        dsimp only at z0 z1 z2 z3 z4 z5 z6 z7
        have z4' : w7.cell? ⟨g, k * 8 + 3 + 1, none⟩ = _ := z4
        have z5' : w7.cell? ⟨g, k * 8 + 3 + 2, none⟩ = _ := z5
        have z6' : w7.cell? ⟨g, k * 8 + 3 + 3, none⟩ = _ := z6
        have z7' : w7.cell? ⟨g, k * 8 + 3 + 4, none⟩ = _ := z7
        have hnq := fun W => neq_rep ex nx kx mx tx ex nx kx mx tx W
        rw [show sameR ex nx kx mx tx ex nx kx mx tx = true from (sameR_iff _ _ _ _ _ _ _ _ _ _).2 ⟨rfl, rfl, rfl, rfl, rfl⟩] at hnq
        clear z4 z5 z6 z7
        go_quiet (fail)
        go_wp2_with fail
        go_meet
        exact ⟨rfl, _, rfl⟩
      case rest =>
        obtain ⟨rfl, hwc⟩ := hcut
        have bq : Below w7.heap.size w7 wc := by
          obtain ⟨qn, hwc⟩ := hwc
          rw [hwc]; exact Ss.below_drw (Below.refl _ _) qn
        have HW8 := Lib.hid (HW7.out.trans (bq.mono HW7.out.size))
        have HO8 : Hid (IdsR w wc v5 ((L.take (k + 1)).map Se.id)) := Lib.hid ⟨Ss.own_later HO7.out.row bq, HO7.out.nil⟩
        clear hwc bq HO7 HW7 HO6 HW6 HW5
        go_wp2_with fail
        go_roundg (n - (k + 1))
        case measure => have := HKM.out; omega
        case rel => exact ⟨k + 1, by have := HKM.out; omega, by go_num, HO8, HW8⟩
    · have hkz : ¬ (k : Int) < (n : Int) := by omega
      have hkn : k = L.length := by have := HN.out; omega
      have HOF : Hid (wr.ownsRow w.heap.size 3 1 u5 (L.map Se.id).length (Ss.zs (L.map Se.id))) := Lib.hid (by
        have h1 := HO.out.row
        rw [hkn, List.take_length] at h1; exact h1)
      obtain ⟨A5, c5, hu5, hc5, hE5, -⟩ := Ss.els_own (d := (0 : Int)) HOF.out
      subst hu5
      obtain ⟨V, hV⟩ : ∃ V, tabB L = V := ⟨_, rfl⟩
      obtain ⟨I, hI⟩ : ∃ I, L.map Se.id = I := ⟨_, rfl⟩
      have HI64 : Hid (I.length ≤ 64) := Lib.hid (by rw [← hI, List.length_map, HN.out]; exact hl)
      have HKr := Lib.hid (HK.out.later HW.out)
      have cPa := fun W (hW : Below wr.heap.size wr W) => stput_any T r most L W (HKr.out.tab.later hW)
      have cPb := fun W (hW : Below wr.heap.size wr W) => rtput_any B Tw most v L W (HKr.out.rt.later hW) HU.out
      have cIa := fun W (hW : Below wr.heap.size wr W) => stids_any T r most L W (HKr.out.tab.later hW)
      rw [hV] at cPa cPb
      rw [hI] at cIa hc5 hE5
      rw [hI]
      have HE5 := Lib.hid (show Is wr A5 I from hE5)
      generalize hUU : (⟨V.toArray⟩ : ByteArray) = U at *
      have HUU := Lib.hid hUU
      clear hV hI hUU hkn hkm hE5 hc5 HOF HO
      go_upto_region 9 with fail
      clear c0 hTl
      refine wp_region_held_drew (S := fun w' => Below wr.heap.size wr w') (by kernel_rfl) ((Below.refl _ _).drew) (fun hHeld => ?_)
      refine held_take (i := 0) (v := ?_) rfl (by kernel_rfl) (by kernel_rfl) (by kernel_rfl) (fun _ _ _ h => h) (by rfl) hHeld ?_ ?_
      rotate_left
      · intro wz hSz; go_simp; try with_reducible rfl
      simp only [Act.put, List.setIfInBounds_toArray, List.set_cons_zero, List.set_cons_succ]
      refine held_take (i := 2) (v := ?_) rfl (by kernel_rfl) (by kernel_rfl) (by kernel_rfl) (fun _ _ _ h => h) (by rfl) hHeld ?_ ?_
      rotate_left
      · intro wz hSz; go_simp; try with_reducible rfl
      simp only [Act.put, List.setIfInBounds_toArray, List.set_cons_zero, List.set_cons_succ]
      refine held_call (i := 1) (by kernel_rfl) rfl (by rfl) (by go_simp; try with_reducible rfl) ((cIa _ hHeld)) ?_
      rintro e wy ⟨A4, p4, rfl, _, hI4, _, _, hy⟩
      refine ⟨_, rfl, hHeld.trans (hy.mono hHeld.size), ?_⟩
      replace hHeld := hHeld.trans (hy.mono hHeld.size)
      simp only [Act.put, List.setIfInBounds_toArray, List.set_cons_zero, List.set_cons_succ]
      have cS := same_self A4 A5 I p4 c5 _ HI64.out hI4 (HE5.out.below hHeld)
      clear hy hI4 cIa
      refine held_call (i := 3) (by kernel_rfl) rfl (by rfl) (by go_simp; try with_reducible rfl) (cS) ?_
      rintro e wy ⟨rfl, hy⟩
      refine ⟨_, rfl, hHeld.trans (hy.mono hHeld.size), ?_⟩
      replace hHeld := hHeld.trans (hy.mono hHeld.size)
      simp only [Act.put, List.setIfInBounds_toArray, List.set_cons_zero, List.set_cons_succ]
      clear hy cS
      refine held_take (i := 4) (v := .bool true) rfl (by kernel_rfl) (by kernel_rfl) (by kernel_rfl) (fun _ _ _ h => h) (by rfl) hHeld ?_ ?_
      · intro wz hSz; (go_simp; first | done | rfl | simp)
      simp only [Act.put, List.setIfInBounds_toArray, List.set_cons_zero, List.set_cons_succ]
      refine held_take (i := 5) (v := ?_) rfl (by kernel_rfl) (by kernel_rfl) (by kernel_rfl) (fun _ _ _ h => h) (by rfl) hHeld ?_ ?_
      rotate_left
      · intro wz hSz; go_simp; try with_reducible rfl
      simp only [Act.put, List.setIfInBounds_toArray, List.set_cons_zero, List.set_cons_succ]
      refine held_take (i := 8) (v := ?_) rfl (by kernel_rfl) (by kernel_rfl) (by kernel_rfl) (fun _ _ _ h => h) (by rfl) hHeld ?_ ?_
      rotate_left
      · intro wz hSz; go_simp; try with_reducible rfl
      simp only [Act.put, List.setIfInBounds_toArray, List.set_cons_zero, List.set_cons_succ]
      refine held_call (i := 6) (by kernel_rfl) rfl (by rfl) (by go_simp; try with_reducible rfl) ((cPa _ hHeld)) ?_
      rintro e wy ⟨A1, p1, rfl, hB1, _, _, hy⟩
      refine ⟨_, rfl, hHeld.trans (hy.mono hHeld.size), ?_⟩
      replace hHeld := hHeld.trans (hy.mono hHeld.size)
      simp only [Act.put, List.setIfInBounds_toArray, List.set_cons_zero, List.set_cons_succ]
      have r1 := text_run p1 hB1 HUU.out
      clear hy cPa
      refine held_make_call (i := 7) (j := 9) (v := .string U) (by kernel_rfl) rfl rfl (by rfl) (by rfl) hHeld (by go_simp; try with_reducible rfl) (by go_simp; try with_reducible rfl) (cPb _ hHeld) ?_ ?_
      · simp only [Act.put, List.setIfInBounds_toArray, List.set_cons_zero, List.set_cons_succ]
        refine held_call (i := 9) (by kernel_rfl) rfl (by rfl) (by go_simp; try with_reducible rfl) ((cPb _ hHeld)) ?_
        rintro e wy ⟨A2, p2, rfl, hB2, _, _, hy⟩
        refine ⟨_, rfl, hHeld.trans (hy.mono hHeld.size), ?_⟩
        replace hHeld := hHeld.trans (hy.mono hHeld.size)
        simp only [Act.put, List.setIfInBounds_toArray, List.set_cons_zero, List.set_cons_succ]
        have r2 := text_run p2 hB2 HUU.out
        clear hy cPb r1
        refine held_read (i := 10) (v := ?_) (by kernel_rfl) rfl (by rfl) hHeld ?_ ?_
        rotate_left
        · go_simp; try with_reducible rfl
        simp only [Act.put, List.setIfInBounds_toArray, List.set_cons_zero, List.set_cons_succ]
        clear r2
        refine held_take (i := 11) (v := .bool true) rfl (by kernel_rfl) (by kernel_rfl) (by kernel_rfl) (fun _ _ _ h => h) (by rfl) hHeld ?_ ?_
        · intro wz hSz; (go_simp; first | done | rfl | simp)
        simp only [Act.put, List.setIfInBounds_toArray, List.set_cons_zero, List.set_cons_succ]
        refine held_take (i := 12) (v := .bool true) rfl (by kernel_rfl) (by kernel_rfl) (by kernel_rfl) (fun _ _ _ h => h) (by rfl) hHeld ?_ ?_
        · intro wz hSz; (go_simp; first | done | rfl | simp)
        simp only [Act.put, List.setIfInBounds_toArray, List.set_cons_zero, List.set_cons_succ]
        refine held_take (i := 13) (v := ?_) rfl (by kernel_rfl) (by kernel_rfl) (by kernel_rfl) (fun _ _ _ h => h) (by rfl) hHeld ?_ ?_
        rotate_left
        · intro wz hSz; go_simp; try with_reducible rfl
        simp only [Act.put, List.setIfInBounds_toArray, List.set_cons_zero, List.set_cons_succ]
        refine wpAnyH_done (by kernel_rfl) ?_ _
        go_wp2
        go_ret
        exact ⟨rfl, HW.out.trans (hHeld.mono HW.out.size)⟩
      · rintro e wy ⟨A2, p2, rfl, hB2, _, _, hy⟩
        refine ⟨_, rfl, hHeld.trans (hy.mono hHeld.size), ?_⟩
        replace hHeld := hHeld.trans (hy.mono hHeld.size)
        have r3 := text_run p1 (hB1.below hy) HUU.out
        have r2 := text_run p2 hB2 HUU.out
        clear hy r1 cPb
        simp only [Act.put, List.setIfInBounds_toArray, List.set_cons_zero, List.set_cons_succ]
        refine held_read_read (i := 7) (j := 10) (v := .string U) (v2 := .string U) (by kernel_rfl) rfl rfl (by rfl) (by rfl) hHeld (by go_simp; try with_reducible rfl) (by go_simp; try with_reducible rfl) ?_ ?_
        · simp only [Act.put, List.setIfInBounds_toArray, List.set_cons_zero, List.set_cons_succ]
          refine held_read (i := 10) (v := ?_) (by kernel_rfl) rfl (by rfl) hHeld ?_ ?_
          rotate_left
          · go_simp; try with_reducible rfl
          simp only [Act.put, List.setIfInBounds_toArray, List.set_cons_zero, List.set_cons_succ]
          clear r2 r3
          refine held_take (i := 11) (v := .bool true) rfl (by kernel_rfl) (by kernel_rfl) (by kernel_rfl) (fun _ _ _ h => h) (by rfl) hHeld ?_ ?_
          · intro wz hSz; (go_simp; first | done | rfl | simp)
          simp only [Act.put, List.setIfInBounds_toArray, List.set_cons_zero, List.set_cons_succ]
          refine held_take (i := 12) (v := .bool true) rfl (by kernel_rfl) (by kernel_rfl) (by kernel_rfl) (fun _ _ _ h => h) (by rfl) hHeld ?_ ?_
          · intro wz hSz; (go_simp; first | done | rfl | simp)
          simp only [Act.put, List.setIfInBounds_toArray, List.set_cons_zero, List.set_cons_succ]
          refine held_take (i := 13) (v := ?_) rfl (by kernel_rfl) (by kernel_rfl) (by kernel_rfl) (fun _ _ _ h => h) (by rfl) hHeld ?_ ?_
          rotate_left
          · intro wz hSz; go_simp; try with_reducible rfl
          simp only [Act.put, List.setIfInBounds_toArray, List.set_cons_zero, List.set_cons_succ]
          refine wpAnyH_done (by kernel_rfl) ?_ _
          go_wp2
          go_ret
          exact ⟨rfl, HW.out.trans (hHeld.mono HW.out.size)⟩
        · simp only [Act.put, List.setIfInBounds_toArray, List.set_cons_zero, List.set_cons_succ]
          refine held_read (i := 7) (v := ?_) (by kernel_rfl) rfl (by rfl) hHeld ?_ ?_
          rotate_left
          · go_simp; try with_reducible rfl
          simp only [Act.put, List.setIfInBounds_toArray, List.set_cons_zero, List.set_cons_succ]
          clear r2 r3
          refine held_take (i := 11) (v := .bool true) rfl (by kernel_rfl) (by kernel_rfl) (by kernel_rfl) (fun _ _ _ h => h) (by rfl) hHeld ?_ ?_
          · intro wz hSz; (go_simp; first | done | rfl | simp)
          simp only [Act.put, List.setIfInBounds_toArray, List.set_cons_zero, List.set_cons_succ]
          refine held_take (i := 12) (v := .bool true) rfl (by kernel_rfl) (by kernel_rfl) (by kernel_rfl) (fun _ _ _ h => h) (by rfl) hHeld ?_ ?_
          · intro wz hSz; (go_simp; first | done | rfl | simp)
          simp only [Act.put, List.setIfInBounds_toArray, List.set_cons_zero, List.set_cons_succ]
          refine held_take (i := 13) (v := ?_) rfl (by kernel_rfl) (by kernel_rfl) (by kernel_rfl) (fun _ _ _ h => h) (by rfl) hHeld ?_ ?_
          rotate_left
          · intro wz hSz; go_simp; try with_reducible rfl
          simp only [Act.put, List.setIfInBounds_toArray, List.set_cons_zero, List.set_cons_succ]
          refine wpAnyH_done (by kernel_rfl) ?_ _
          go_wp2
          go_ret
          exact ⟨rfl, HW.out.trans (hHeld.mono HW.out.size)⟩
end
/- The law's do: a call at both. Printed by gen/tdo.py. -/
section
open Go.RowKit Go.Maps Go.Sort Go.Shelf
set_option linter.unusedSimpArgs false

structure C9 (w : World) (b : Nat) (kd id at_ re rn rK rm : Int) (rs : ByteArray) (sl : Value) : Prop where
  lt : b < w.heap.size
  c0 : w.cell? ⟨b, 0, none⟩ = some (.int .i64 kd)
  c1 : w.cell? ⟨b, 1, none⟩ = some (.int .i64 id)
  c2 : w.cell? ⟨b, 2, none⟩ = some (.int .i64 at_)
  c3 : w.cell? ⟨b, 3, none⟩ = some (.int .i64 re)
  c4 : w.cell? ⟨b, 3 + 1, none⟩ = some (.int .i64 rn)
  c5 : w.cell? ⟨b, 3 + 2, none⟩ = some (.int .i64 rK)
  c6 : w.cell? ⟨b, 3 + 3, none⟩ = some (.int .i64 rm)
  c7 : w.cell? ⟨b, 3 + 4, none⟩ = some (.string rs)
  c8 : w.cell? ⟨b, 8, none⟩ = some sl
theorem Blk.o9 {w : World} {b : Nat} {t : TypeId} {kd id at_ re rn rK rm : Int} {rs : ByteArray} {sl : Value} (h : Blk w b t #[.int .i64 kd, .int .i64 id, .int .i64 at_, .int .i64 re, .int .i64 rn, .int .i64 rK, .int .i64 rm, .string rs, sl]) : C9 w b kd id at_ re rn rK rm rs sl := by
  refine ⟨h.lt, ?_, ?_, ?_, ?_, ?_, ?_, ?_, ?_, ?_⟩ <;> rw [h.cell] <;> rfl
section
variable {w w2 w3 : World} {B T r most Tw : Nat} {v : Value} {L M : List Se}
theorem Twin.rtE (h : Twin w B T r most Tw v L) (hb : But2 w.heap.size r w w2) : RT w2 B Tw most v L ∧ Below B w w2 := by
  have hTw := h.rt.blk.lt
  have hTl := h.tab.lt
  refine ⟨h.rt.other hb (by omega) h.n2.symm (fun k hk => ⟨by have := (h.rt.row.lt k hk).2; omega, (h.n3 k hk).2⟩), hb.below ?_ h.br ?_⟩
  · have := h.bT; omega
  · have := h.bT; omega
/-- Both calls are done. -/
theorem Twin.both (h : Twin w B T r most Tw v L) {e : Ending} {u : Value} (h1 : EndT w T r most M u e w2) (h2 : RtTo w2 B Tw most v M w3) : (∃ v', Twin w3 B T r most Tw v' M) ∧ Below B w w3 :=
  h.step h1.2.1 (h.rtE h1.2.2).2 h1.2.2.size (.inl rfl) h2
theorem Twin.blkE (_h : Twin w B T r most Tw v L) {t : TypeId} {cs : Array Value} {xb : Nat} (hX : Blk w xb t cs) (hb : But2 w.heap.size r w w2) (hr : xb ≠ r) : Blk w2 xb t cs := (hb.block xb hX.lt (by have := hX.lt; omega) hr).trans hX
theorem RtTo.blk (h2 : RtTo w2 B Tw most v M w3) {t : TypeId} {cs : Array Value} {xb : Nat} (hX : Blk w2 xb t cs) (h1 : xb ≠ Tw) (h3 : xb ≠ v.ownBlock.getD Tw) : Blk w3 xb t cs := by
  obtain ⟨v', _, hb, _⟩ := h2
  exact (hb.block xb hX.lt h1 h3).trans hX
end
section
variable {P : Program} {md : Region.Mode} {l : List Oper} {Q : Exit → Act → World → Prop} {S : World → Prop} {fuel : Nat} {listed : Array Bool} {a : Act} {w : World} {i j : Nat} {o o2 : Oper}
/-- Two may come up: one that calls, one that only reads. -/
theorem held_call_read {v2 : Value} {f : FuncId} {args : Array Value} {R : Ending → World → Prop} (hr : Region.ready md l.toArray listed = [i, j]) (ho : l[i]? = some o) (ho2 : l[j]? = some o2)
    (hw : Region.wanted o (yielded l.toArray a.tmps) = true) (hw2 : Region.wanted o2 (yielded l.toArray a.tmps) = true) (hS : S w) (hy : (execOp a.eval o).run P w = .ok (.enter f args) w) (hy2 : (execOp a.eval o2).run P w = .ok (.value v2) w)
    (hc : Calls P f args w R) (h : ∀ e w', R e w' → ∃ v, e = .returned v ∧ S w' ∧ wpAnyH P md l.toArray Q S fuel (listed.setIfInBounds i true) (a.put o.dst v) w')
    (h2 : wpAnyH P md l.toArray Q S fuel (listed.setIfInBounds j true) (a.put o2.dst v2) w) : wpAnyH P md l.toArray Q S (fuel + 1) listed a w :=
  wpAnyH_ready hr (by simp) (AllReadyH.cons (by simpa using ho) (fun K hK => by
      rw [if_pos hw]
      unfold Oper.wp
      rw [hy]
      refine hc.mono fun e w' hR => ?_
      obtain ⟨v, rfl, hS2, hh⟩ := h e w' hR
      exact hK _ _ hS2 fun _ => hh)
    (AllReadyH.cons (by simpa using ho2) (fun K hK => by
      rw [if_pos hw2]
      unfold Oper.wp
      rw [hy2]
      exact hK _ _ hS fun _ => h2) AllReadyH.nil))
end
theorem tabB_len {most : Nat} {L : List Se} (h : Tb most L) : (tabB L).length ≤ 64012810 := by
  have hl : L.length ≤ 64 := Nat.le_trans h.len h.hi
  have := row_small h (P0 := putI (L.length : Int)) (putI_of_len hl).2 hl
  rwa [List.take_length] at this
theorem Rd.but {N a b g : Nat} {w w' : World} {s : St} {t : TypeId} {cs : Array Value} (h : Rd N w g s) (hq : Blk w b t cs) (hn : noU8 cs = true) (hb : But2 a b w w') (ha : a < N) (hne : g ≠ b) : Rd N w' g s := by
  have hlt := h.lt
  obtain ⟨h1, h2, h3, A, cap, hc, hcap, hB⟩ := h
  refine ⟨h1, h2, h3, A, cap, (hb.block g hlt (by omega) hne).trans hc, hcap, fun h0 => ?_⟩
  obtain ⟨k, off, e, hk, hj⟩ := hB h0
  exact ⟨k, off, e, hk, fun j hj' => (World.cell?_of_block (w := w) (a := ⟨k, off + j, none⟩) (hb.block k (Bs.lt h0 hj) (by omega) (hq.apart hn (hj j hj')))).trans (hj j hj')⟩
theorem LoadT.cases {N g T r most : Nat} {L0 : List Se} {w : World} {o : Option (List Se × St)} {e : Ending} {w' : World} (h : LoadT N g T r most L0 w o e w') :
    ∃ bl s' M m, e = .returned (.bool bl) ∧ But2 g T w w' ∧ Tab w' T m most M ∧ (m = r ∨ w.heap.size ≤ m) ∧ Rd N w' g s' ∧ (∀ (B Tw q : Nat) (v : Value) (w5 : World) (e6 : Ending) (w6 : World), LoadD B Tw most v L0 q w5 o e6 w6 → e6 = .returned (.bool bl) ∧ But2 Tw q w5 w6 ∧ (∃ v', RT w6 B Tw most v' M ∧ (v' = v ∨ ∀ k, v'.ownBlock = some k → w5.heap.size ≤ k)) ∧ RR w6 q s') := by
  obtain ⟨hb, ⟨L, s', m, ho, he, hm, hT, hR, -⟩ | ⟨ho, he, hT, hR⟩⟩ := h
  · refine ⟨true, s', L, m, he, hb, hT, .inr hm, hR, fun B Tw q v w5 e6 w6 h6 => ?_⟩
    obtain ⟨hb6, ⟨L2, s2, v2, ho2, he2, -, hR2, hf2, hRR, -⟩ | ⟨ho2, -⟩⟩ := h6
    · rw [ho] at ho2
      injection ho2 with ho2
      injection ho2 with h1 h2
      subst h1 h2
      exact ⟨he2, hb6, ⟨v2, hR2, .inr hf2⟩, hRR⟩
    · rw [ho] at ho2; cases ho2
  · refine ⟨false, ([], true), L0, r, he, hb, hT, .inl rfl, hR, fun B Tw q v w5 e6 w6 h6 => ?_⟩
    obtain ⟨hb6, ⟨L2, s2, v2, ho2, -⟩ | ⟨-, he2, hR2, hRR⟩⟩ := h6
    · rw [ho] at ho2; cases ho2
    · exact ⟨he2, hb6, ⟨v, hR2, .inl rfl⟩, hRR⟩
theorem Twin.load {w w5 w6 : World} {B T r most Tw m g q : Nat} {v v' : Value} {L M : List Se} (h : Twin w B T r most Tw v L) (hg : B ≤ g) (hq : B ≤ q) (hq2 : q < w.heap.size) (q1 : q ≠ T) (q2 : q ≠ r)
    (K5 : Tab w5 T m most M) (hm : m = r ∨ w.heap.size ≤ m) (b5 : But2 g T w w5) (R6 : RT w6 B Tw most v' M) (b6 : But2 Tw q w5 w6) (hv : v' = v ∨ ∀ k, v'.ownBlock = some k → w5.heap.size ≤ k) : Twin w6 B T m most Tw v' M ∧ Below B w w6 := by
  have hTw := h.rt.blk.lt
  have hTl := h.tab.lt
  have hrl := h.tab.m.lt
  have hBT := h.rt.ge
  have hs5 := b5.size
  have h1 := h.n1
  have h2 := h.n2
  have hT5 := K5.lt
  have hm5 := K5.m.lt
  have hTB := h.bT
  have hrB := h.br
  have hm2 : m ≠ Tw := by rcases hm with rfl | hm; exact h2; omega
  have hm3 : m ≠ q := by rcases hm with rfl | hm; exact q2.symm; omega
  refine ⟨⟨K5.other b6 h1 (by omega) hm2 hm3, R6, hTB, by rcases hm with rfl | hm; exact hrB; omega, h1, hm2, fun k hk => ?_⟩, (b5.below hg hTB (by omega)).trans (b6.below hBT hq (by omega))⟩
  rcases hv with rfl | hv
  · have h3 := h.n3 k hk
    have h4 := (h.rt.row.lt k hk).2
    refine ⟨h3.1, ?_⟩
    rcases hm with rfl | hm
    · exact h3.2
    · omega
  · have := hv k hk
    omega
/-- How do ends. -/
def DoEnd (w : World) (B T most Tw : Nat) (e : Ending) (w' : World) : Prop := e = .returned (.bool true) ∧ (∃ r' v' L', Twin w' B T r' most Tw v' L') ∧ Below B w w'
set_option maxHeartbeats 16000000 in
set_option maxRecDepth 100000 in
theorem tdo_any (w0 : World) (T r most Tw : Nat) (v : Value) (L : List Se) (kd id at_ re rn rK rm : Int) (rs : ByteArray) (Bb : Option Addr) (X : List UInt8) (bc : Nat) (w : World) (h : Twin w w0.heap.size T r most Tw v L) (hT : Tabs w0) (hb0 : Below w0.heap.size w0 w)
    (hk0 : -9223372036854775808 ≤ kd) (hk1 : kd ≤ 9223372036854775807) (hi0 : -9223372036854775808 ≤ id) (hi1 : id ≤ 9223372036854775807) (ha0 : -9223372036854775808 ≤ at_) (ha1 : at_ ≤ 9223372036854775807) (hp : Rp.In ⟨re, rn, rK, rm, rs⟩) (hs : rs.size ≤ 1000)
    (hX : Bs w0 Bb X) (hXc : X.length ≤ bc) (hXn : Bb = none → bc = 0) (hXl : X.length ≤ 3000) :
    Calls Tryz.prog 7 #[.pointer (some ⟨T, 0, none⟩), .pointer (some ⟨Tw, 0, none⟩), .agg #[.int .i64 kd, .int .i64 id, .int .i64 at_, .int .i64 re, .int .i64 rn, .int .i64 rK, .int .i64 rm, .string rs, .slice Bb X.length bc]] w (DoEnd w w0.heap.size T most Tw) := by
  have b1 := Ss.below_alloc w (.cells #[.int .i64 kd, .int .i64 id, .int .i64 at_, .int .i64 re, .int .i64 rn, .int .i64 rK, .int .i64 rm, .string rs, .slice Bb X.length bc] 37)
  have X1 := Blk.new w #[.int .i64 kd, .int .i64 id, .int .i64 at_, .int .i64 re, .int .i64 rn, .int .i64 rK, .int .i64 rm, .string rs, .slice Bb X.length bc] 37
  obtain ⟨w1, hw1⟩ : ∃ x, w.alloc (.cells #[.int .i64 kd, .int .i64 id, .int .i64 at_, .int .i64 re, .int .i64 rn, .int .i64 rK, .int .i64 rm, .string rs, .slice Bb X.length bc] 37) = x := ⟨_, rfl⟩
  have hsz : w1.heap.size = w.heap.size + 1 := by rw [← hw1]; simp
  rw [hw1] at b1 X1
  obtain ⟨hlx, c0, c1, c2, c3, c4, c5, c6, c7, c8⟩ := X1.o9
  obtain ⟨xb, hxb⟩ : ∃ b, w.heap.size = b := ⟨_, rfl⟩
  rw [hxb] at X1 hsz
  have HK := Lib.hid (h.later b1)
  have HB1 : Hid (Below w0.heap.size w w1) := Lib.hid (b1.mono hb0.size)
  have hTl := h.tab.lt
  have hrl := h.tab.m.lt
  have hTwl := h.rt.blk.lt
  have hvl := fun k hk => (h.rt.row.lt k hk).2
  have hxr : xb ≠ r := by omega
  have hxT : xb ≠ T := by omega
  have hxw : xb ≠ Tw := by omega
  have HXV : Hid (xb ≠ v.ownBlock.getD Tw) := Lib.hid (by
    cases hv : v.ownBlock with
    | none => exact hxw
    | some k => show xb ≠ k; have := hvl k hv; omega)
  have HT := Lib.hid (fun W (hW : Below w0.heap.size w0 W) => hT.later hW)
  have HB0 := Lib.hid hb0
  have HXX := Lib.hid hX
  have HU := Lib.hid h.tab.t
  have hl64 : L.length ≤ 64 := Nat.le_trans h.tab.t.len h.tab.t.hi
  have HX1 := Lib.hid X1
  have HHB := Lib.hid hxb
  have cP := fun W => place_z kd 7 W hk0 hk1 (by decide) (by decide)
  have p0 := placeZ_lo kd 7 (by decide)
  have p1 := placeZ_hi kd 7 (by decide)
  obtain ⟨p, hpz⟩ : ∃ p, placeZ kd 7 = p := ⟨_, rfl⟩
  rw [hpz] at p0 p1
  simp only [hpz] at cP
  have HTB := Lib.hid (fun W (hW : Below w1.heap.size w1 W) => hT.later (hb0.trans (HB1.out.trans (hW.mono (by have := hb0.size; omega)))))
  clear h b1 X1 hvl hpz hk0 hk1 hT hb0 hX hxb
  have hp7 : p = 0 ∨ p = 1 ∨ p = 2 ∨ p = 3 ∨ p = 4 ∨ p = 5 ∨ p = 6 := by omega
  clear p0 p1
  rcases hp7 with rfl | rfl | rfl | rfl | rfl | rfl | rfl
  · go_enter Tryz.func7, Tryz.ntmps7
    go_wp2_with fail
    rw [HHB.out]
    clear hlx c0 c1 c2 c3 c4 c5 c6 c7 c8 hw1
    obtain ⟨hlx, c0, c1, c2, c3, c4, c5, c6, c7, c8⟩ := HX1.out.o9
    refine (cP _).mono ?_
    rintro e wq ⟨rfl, rfl⟩
    clear cP
    have cO := stopen_any T r most L id w1 HK.out.tab
    obtain ⟨⟨⟨gz, ok⟩, M⟩, hM⟩ : ∃ z, openS most id L = z := ⟨_, rfl⟩
    rw [hM] at cO
    have HM := Lib.hid hM
    clear hM
    go_wp2_with fail
    refine cO.mono ?_
    rintro e w2 hE
    have HE := Lib.hid hE
    obtain ⟨rfl, -, hB2⟩ := hE
    have hrt := (HK.out.rtE hB2).1
    obtain ⟨-, d0, d1, d2, d3, d4, d5, d6, d7, d8⟩ := (HK.out.blkE HX1.out hB2 hxr).o9
    have cD := rtopen_any w0.heap.size Tw most v L id w2 hrt HU.out hi0 hi1
    rw [HM.out] at cD
    clear cO hB2 hrt c0 c1 c2 c3 c4 c5 c6 c7 c8
    go_wp2_with fail
    refine cD.mono ?_
    rintro e w3 ⟨rfl, hto⟩
    have HF := Lib.hid (HK.out.both HE.out hto)
    clear cD hto d0 d1 d2 d3 d4 d5 d6 d7 d8
    cases ok with
    | true =>
      go_wp2_with fail
      go_ret
      exact ⟨rfl, ⟨r, HF.out.1.choose, M, HF.out.1.choose_spec⟩, HB1.out.trans HF.out.2⟩
    | false =>
      go_wp2_with fail
      go_ret
      exact ⟨rfl, ⟨r, HF.out.1.choose, M, HF.out.1.choose_spec⟩, HB1.out.trans HF.out.2⟩
  · go_enter Tryz.func7, Tryz.ntmps7
    go_wp2_with fail
    rw [HHB.out]
    clear hlx c0 c1 c2 c3 c4 c5 c6 c7 c8 hw1
    obtain ⟨hlx, c0, c1, c2, c3, c4, c5, c6, c7, c8⟩ := HX1.out.o9
    refine (cP _).mono ?_
    rintro e wq ⟨rfl, rfl⟩
    clear cP
    have cO := stopen_any T r most L id w1 HK.out.tab
    obtain ⟨⟨⟨gz, ok⟩, M⟩, hM⟩ : ∃ z, openS most id L = z := ⟨_, rfl⟩
    rw [hM] at cO
    have HM := Lib.hid hM
    clear hM
    go_wp2_with fail
    refine cO.mono ?_
    rintro e w2 hE
    have HE := Lib.hid hE
    obtain ⟨rfl, -, hB2⟩ := hE
    have hrt := (HK.out.rtE hB2).1
    obtain ⟨-, d0, d1, d2, d3, d4, d5, d6, d7, d8⟩ := (HK.out.blkE HX1.out hB2 hxr).o9
    have cD := rtopen_any w0.heap.size Tw most v L id w2 hrt HU.out hi0 hi1
    rw [HM.out] at cD
    clear cO hB2 hrt c0 c1 c2 c3 c4 c5 c6 c7 c8
    go_wp2_with fail
    refine cD.mono ?_
    rintro e w3 ⟨rfl, hto⟩
    have HF := Lib.hid (HK.out.both HE.out hto)
    clear cD hto d0 d1 d2 d3 d4 d5 d6 d7 d8
    cases ok with
    | true =>
      go_wp2_with fail
      go_ret
      exact ⟨rfl, ⟨r, HF.out.1.choose, M, HF.out.1.choose_spec⟩, HB1.out.trans HF.out.2⟩
    | false =>
      go_wp2_with fail
      go_ret
      exact ⟨rfl, ⟨r, HF.out.1.choose, M, HF.out.1.choose_spec⟩, HB1.out.trans HF.out.2⟩
  · go_enter Tryz.func7, Tryz.ntmps7
    go_wp2_with fail
    rw [HHB.out]
    clear hlx c0 c1 c2 c3 c4 c5 c6 c7 c8 hw1
    obtain ⟨hlx, c0, c1, c2, c3, c4, c5, c6, c7, c8⟩ := HX1.out.o9
    refine (cP _).mono ?_
    rintro e wq ⟨rfl, rfl⟩
    clear cP
    have HKd := Lib.hid (HK.out.later (Below.refl w1.heap.size w1).drew)
    have cU := stuse_any T r most L id at_ w1.drew HKd.out.tab
    obtain ⟨⟨bk, M⟩, hM⟩ : ∃ z, useS id at_ L = z := ⟨_, rfl⟩
    rw [hM] at cU
    have HM := Lib.hid hM
    clear hM
    go_wp2_with fail
    clear c0 c1 c2 c3 c4 c5 c6 c7 c8
    refine wp_region_held_drew (S := fun wz => Blk wz xb 37 #[.int .i64 kd, .int .i64 id, .int .i64 at_, .int .i64 re, .int .i64 rn, .int .i64 rK, .int .i64 rm, .string rs, .slice Bb X.length bc]) (by kernel_rfl) (HX1.out) (fun hHeld => ?_)
    refine held_take (i := 0) (v := ?_) rfl (by kernel_rfl) (by kernel_rfl) (by kernel_rfl) (fun _ _ _ h => h) (by rfl) hHeld ?_ ?_
    rotate_left
    · intro wz hSz; go_simp; try with_reducible rfl
    simp only [Act.put, List.setIfInBounds_toArray, List.set_cons_zero, List.set_cons_succ]
    refine held_take (i := 1) (v := ?_) rfl (by kernel_rfl) (by kernel_rfl) (by kernel_rfl) (fun _ _ _ h => h) (by rfl) hHeld ?_ ?_
    rotate_left
    · intro wz hSz; go_simp; try with_reducible rfl
    simp only [Act.put, List.setIfInBounds_toArray, List.set_cons_zero, List.set_cons_succ]
    refine held_take (i := 2) (v := ?_) rfl (by kernel_rfl) (by kernel_rfl) (by kernel_rfl) (fun _ _ _ h => h) (by rfl) hHeld ?_ ?_
    rotate_left
    · intro wz hSz; obtain ⟨q9, q0, q1, q2, q3, q4, q5, q6, q7, q8⟩ := hSz.o9; go_simp; try with_reducible rfl
    simp only [Act.put, List.setIfInBounds_toArray, List.set_cons_zero, List.set_cons_succ]
    refine held_take (i := 3) (v := ?_) rfl (by kernel_rfl) (by kernel_rfl) (by kernel_rfl) (fun _ _ _ h => h) (by rfl) hHeld ?_ ?_
    rotate_left
    · intro wz hSz; go_simp; try with_reducible rfl
    simp only [Act.put, List.setIfInBounds_toArray, List.set_cons_zero, List.set_cons_succ]
    refine held_take (i := 4) (v := ?_) rfl (by kernel_rfl) (by kernel_rfl) (by kernel_rfl) (fun _ _ _ h => h) (by rfl) hHeld ?_ ?_
    rotate_left
    · intro wz hSz; obtain ⟨q9, q0, q1, q2, q3, q4, q5, q6, q7, q8⟩ := hSz.o9; go_simp; try with_reducible rfl
    simp only [Act.put, List.setIfInBounds_toArray, List.set_cons_zero, List.set_cons_succ]
    refine held_take (i := 6) (v := ?_) rfl (by kernel_rfl) (by kernel_rfl) (by kernel_rfl) (fun _ _ _ h => h) (by rfl) hHeld ?_ ?_
    rotate_left
    · intro wz hSz; go_simp; try with_reducible rfl
    simp only [Act.put, List.setIfInBounds_toArray, List.set_cons_zero, List.set_cons_succ]
    refine held_take (i := 7) (v := ?_) rfl (by kernel_rfl) (by kernel_rfl) (by kernel_rfl) (fun _ _ _ h => h) (by rfl) hHeld ?_ ?_
    rotate_left
    · intro wz hSz; go_simp; try with_reducible rfl
    simp only [Act.put, List.setIfInBounds_toArray, List.set_cons_zero, List.set_cons_succ]
    refine held_take (i := 8) (v := ?_) rfl (by kernel_rfl) (by kernel_rfl) (by kernel_rfl) (fun _ _ _ h => h) (by rfl) hHeld ?_ ?_
    rotate_left
    · intro wz hSz; obtain ⟨q9, q0, q1, q2, q3, q4, q5, q6, q7, q8⟩ := hSz.o9; go_simp; try with_reducible rfl
    simp only [Act.put, List.setIfInBounds_toArray, List.set_cons_zero, List.set_cons_succ]
    refine held_take (i := 9) (v := ?_) rfl (by kernel_rfl) (by kernel_rfl) (by kernel_rfl) (fun _ _ _ h => h) (by rfl) hHeld ?_ ?_
    rotate_left
    · intro wz hSz; go_simp; try with_reducible rfl
    simp only [Act.put, List.setIfInBounds_toArray, List.set_cons_zero, List.set_cons_succ]
    refine held_take (i := 10) (v := ?_) rfl (by kernel_rfl) (by kernel_rfl) (by kernel_rfl) (fun _ _ _ h => h) (by rfl) hHeld ?_ ?_
    rotate_left
    · intro wz hSz; obtain ⟨q9, q0, q1, q2, q3, q4, q5, q6, q7, q8⟩ := hSz.o9; go_simp; try with_reducible rfl
    simp only [Act.put, List.setIfInBounds_toArray, List.set_cons_zero, List.set_cons_succ]
    refine held_call (i := 5) (by kernel_rfl) rfl (by rfl) (by go_simp; try with_reducible rfl) cU ?_
    rintro e w2 hE
    have HE := Lib.hid hE
    obtain ⟨rfl, -, hB2⟩ := hE
    have hHeld := HKd.out.blkE HX1.out hB2 hxr
    refine ⟨_, rfl, hHeld, ?_⟩
    have hrt := (HKd.out.rtE hB2).1
    have cD := rtuse_any w0.heap.size Tw most v L id at_ w2 hrt HU.out
    rw [HM.out] at cD
    clear cU hB2 hrt
    simp only [Act.put, List.setIfInBounds_toArray, List.set_cons_zero, List.set_cons_succ]
    refine held_call (i := 11) (by kernel_rfl) rfl (by rfl) (by go_simp; try with_reducible rfl) cD ?_
    rintro e w3 ⟨rfl, hto⟩
    have HF := Lib.hid (HKd.out.both HE.out hto)
    refine ⟨_, rfl, hto.blk hHeld hxw HXV.out, ?_⟩
    replace hHeld := hto.blk hHeld hxw HXV.out
    clear cD hto
    simp only [Act.put, List.setIfInBounds_toArray, List.set_cons_zero, List.set_cons_succ]
    refine held_take (i := 12) (v := .bool true) rfl (by kernel_rfl) (by kernel_rfl) (by kernel_rfl) (fun _ _ _ h => h) (by rfl) hHeld ?_ ?_
    · intro wz hSz; (go_simp; first | done | rfl | simp)
    simp only [Act.put, List.setIfInBounds_toArray, List.set_cons_zero, List.set_cons_succ]
    refine held_take (i := 13) (v := ?_) rfl (by kernel_rfl) (by kernel_rfl) (by kernel_rfl) (fun _ _ _ h => h) (by rfl) hHeld ?_ ?_
    rotate_left
    · intro wz hSz; go_simp; try with_reducible rfl
    simp only [Act.put, List.setIfInBounds_toArray, List.set_cons_zero, List.set_cons_succ]
    refine wpAnyH_done (by kernel_rfl) ?_ _
    go_wp2_with fail
    go_ret
    exact ⟨rfl, ⟨r, HF.out.1.choose, M, HF.out.1.choose_spec⟩, HB1.out.drew.trans HF.out.2⟩
  · go_enter Tryz.func7, Tryz.ntmps7
    go_wp2_with fail
    rw [HHB.out]
    clear hlx c0 c1 c2 c3 c4 c5 c6 c7 c8 hw1
    obtain ⟨hlx, c0, c1, c2, c3, c4, c5, c6, c7, c8⟩ := HX1.out.o9
    refine (cP _).mono ?_
    rintro e wq ⟨rfl, rfl⟩
    clear cP
    have HKd := Lib.hid (HK.out.later (Below.refl w1.heap.size w1).drew)
    have cU := stkeep_any T r most L id at_ ⟨re, rn, rK, rm, rs⟩ w1.drew HKd.out.tab hp (by show rs.size < _; omega) (HTB.out _ (Below.refl w1.heap.size w1).drew)
    obtain ⟨⟨bk, M⟩, hM⟩ : ∃ z, keepS id at_ ⟨re, rn, rK, rm, rs⟩ L = z := ⟨_, rfl⟩
    rw [hM] at cU
    have HM := Lib.hid hM
    clear hM
    go_wp2_with fail
    clear c0 c1 c2 c3 c4 c5 c6 c7 c8
    refine wp_region_held_drew (S := fun wz => Blk wz xb 37 #[.int .i64 kd, .int .i64 id, .int .i64 at_, .int .i64 re, .int .i64 rn, .int .i64 rK, .int .i64 rm, .string rs, .slice Bb X.length bc]) (by kernel_rfl) (HX1.out) (fun hHeld => ?_)
    refine held_take (i := 0) (v := ?_) rfl (by kernel_rfl) (by kernel_rfl) (by kernel_rfl) (fun _ _ _ h => h) (by rfl) hHeld ?_ ?_
    rotate_left
    · intro wz hSz; go_simp; try with_reducible rfl
    simp only [Act.put, List.setIfInBounds_toArray, List.set_cons_zero, List.set_cons_succ]
    refine held_take (i := 1) (v := ?_) rfl (by kernel_rfl) (by kernel_rfl) (by kernel_rfl) (fun _ _ _ h => h) (by rfl) hHeld ?_ ?_
    rotate_left
    · intro wz hSz; go_simp; try with_reducible rfl
    simp only [Act.put, List.setIfInBounds_toArray, List.set_cons_zero, List.set_cons_succ]
    refine held_take (i := 2) (v := ?_) rfl (by kernel_rfl) (by kernel_rfl) (by kernel_rfl) (fun _ _ _ h => h) (by rfl) hHeld ?_ ?_
    rotate_left
    · intro wz hSz; obtain ⟨q9, q0, q1, q2, q3, q4, q5, q6, q7, q8⟩ := hSz.o9; go_simp; try with_reducible rfl
    simp only [Act.put, List.setIfInBounds_toArray, List.set_cons_zero, List.set_cons_succ]
    refine held_take (i := 3) (v := ?_) rfl (by kernel_rfl) (by kernel_rfl) (by kernel_rfl) (fun _ _ _ h => h) (by rfl) hHeld ?_ ?_
    rotate_left
    · intro wz hSz; go_simp; try with_reducible rfl
    simp only [Act.put, List.setIfInBounds_toArray, List.set_cons_zero, List.set_cons_succ]
    refine held_take (i := 4) (v := ?_) rfl (by kernel_rfl) (by kernel_rfl) (by kernel_rfl) (fun _ _ _ h => h) (by rfl) hHeld ?_ ?_
    rotate_left
    · intro wz hSz; obtain ⟨q9, q0, q1, q2, q3, q4, q5, q6, q7, q8⟩ := hSz.o9; go_simp; try with_reducible rfl
    simp only [Act.put, List.setIfInBounds_toArray, List.set_cons_zero, List.set_cons_succ]
    refine held_take (i := 5) (v := ?_) rfl (by kernel_rfl) (by kernel_rfl) (by kernel_rfl) (fun _ _ _ h => h) (by rfl) hHeld ?_ ?_
    rotate_left
    · intro wz hSz; go_simp; try with_reducible rfl
    simp only [Act.put, List.setIfInBounds_toArray, List.set_cons_zero, List.set_cons_succ]
    refine held_take (i := 6) (v := ?_) rfl (by kernel_rfl) (by kernel_rfl) (by kernel_rfl) (fun _ _ _ h => h) (by rfl) hHeld ?_ ?_
    rotate_left
    · intro wz hSz; obtain ⟨q9, q0, q1, q2, q3, q4, q5, q6, q7, q8⟩ := hSz.o9; go_simp; try with_reducible rfl
    simp only [Act.put, List.setIfInBounds_toArray, List.set_cons_zero, List.set_cons_succ]
    refine held_take (i := 8) (v := ?_) rfl (by kernel_rfl) (by kernel_rfl) (by kernel_rfl) (fun _ _ _ h => h) (by rfl) hHeld ?_ ?_
    rotate_left
    · intro wz hSz; go_simp; try with_reducible rfl
    simp only [Act.put, List.setIfInBounds_toArray, List.set_cons_zero, List.set_cons_succ]
    refine held_take (i := 9) (v := ?_) rfl (by kernel_rfl) (by kernel_rfl) (by kernel_rfl) (fun _ _ _ h => h) (by rfl) hHeld ?_ ?_
    rotate_left
    · intro wz hSz; go_simp; try with_reducible rfl
    simp only [Act.put, List.setIfInBounds_toArray, List.set_cons_zero, List.set_cons_succ]
    refine held_take (i := 10) (v := ?_) rfl (by kernel_rfl) (by kernel_rfl) (by kernel_rfl) (fun _ _ _ h => h) (by rfl) hHeld ?_ ?_
    rotate_left
    · intro wz hSz; obtain ⟨q9, q0, q1, q2, q3, q4, q5, q6, q7, q8⟩ := hSz.o9; go_simp; try with_reducible rfl
    simp only [Act.put, List.setIfInBounds_toArray, List.set_cons_zero, List.set_cons_succ]
    refine held_take (i := 11) (v := ?_) rfl (by kernel_rfl) (by kernel_rfl) (by kernel_rfl) (fun _ _ _ h => h) (by rfl) hHeld ?_ ?_
    rotate_left
    · intro wz hSz; go_simp; try with_reducible rfl
    simp only [Act.put, List.setIfInBounds_toArray, List.set_cons_zero, List.set_cons_succ]
    refine held_take (i := 12) (v := ?_) rfl (by kernel_rfl) (by kernel_rfl) (by kernel_rfl) (fun _ _ _ h => h) (by rfl) hHeld ?_ ?_
    rotate_left
    · intro wz hSz; obtain ⟨q9, q0, q1, q2, q3, q4, q5, q6, q7, q8⟩ := hSz.o9; go_simp; try with_reducible rfl
    simp only [Act.put, List.setIfInBounds_toArray, List.set_cons_zero, List.set_cons_succ]
    refine held_take (i := 13) (v := ?_) rfl (by kernel_rfl) (by kernel_rfl) (by kernel_rfl) (fun _ _ _ h => h) (by rfl) hHeld ?_ ?_
    rotate_left
    · intro wz hSz; go_simp; try with_reducible rfl
    simp only [Act.put, List.setIfInBounds_toArray, List.set_cons_zero, List.set_cons_succ]
    refine held_take (i := 14) (v := ?_) rfl (by kernel_rfl) (by kernel_rfl) (by kernel_rfl) (fun _ _ _ h => h) (by rfl) hHeld ?_ ?_
    rotate_left
    · intro wz hSz; obtain ⟨q9, q0, q1, q2, q3, q4, q5, q6, q7, q8⟩ := hSz.o9; go_simp; try with_reducible rfl
    simp only [Act.put, List.setIfInBounds_toArray, List.set_cons_zero, List.set_cons_succ]
    refine held_call (i := 7) (by kernel_rfl) rfl (by rfl) (by go_simp; try with_reducible rfl) cU ?_
    rintro e w2 hE
    have HE := Lib.hid hE
    obtain ⟨rfl, -, hB2⟩ := hE
    have hHeld := HKd.out.blkE HX1.out hB2 hxr
    refine ⟨_, rfl, hHeld, ?_⟩
    have hrt := (HKd.out.rtE hB2).1
    have cD := rtkeep_any w0.heap.size Tw most v L id at_ ⟨re, rn, rK, rm, rs⟩ w2 hrt HU.out hp ha0 ha1
    rw [HM.out] at cD
    clear cU hB2 hrt
    simp only [Act.put, List.setIfInBounds_toArray, List.set_cons_zero, List.set_cons_succ]
    refine held_call (i := 15) (by kernel_rfl) rfl (by rfl) (by go_simp; try with_reducible rfl) cD ?_
    rintro e w3 ⟨rfl, hto⟩
    have HF := Lib.hid (HKd.out.both HE.out hto)
    refine ⟨_, rfl, hto.blk hHeld hxw HXV.out, ?_⟩
    replace hHeld := hto.blk hHeld hxw HXV.out
    clear cD hto
    simp only [Act.put, List.setIfInBounds_toArray, List.set_cons_zero, List.set_cons_succ]
    refine held_take (i := 16) (v := .bool true) rfl (by kernel_rfl) (by kernel_rfl) (by kernel_rfl) (fun _ _ _ h => h) (by rfl) hHeld ?_ ?_
    · intro wz hSz; (go_simp; first | done | rfl | simp)
    simp only [Act.put, List.setIfInBounds_toArray, List.set_cons_zero, List.set_cons_succ]
    refine held_take (i := 17) (v := ?_) rfl (by kernel_rfl) (by kernel_rfl) (by kernel_rfl) (fun _ _ _ h => h) (by rfl) hHeld ?_ ?_
    rotate_left
    · intro wz hSz; go_simp; try with_reducible rfl
    simp only [Act.put, List.setIfInBounds_toArray, List.set_cons_zero, List.set_cons_succ]
    refine wpAnyH_done (by kernel_rfl) ?_ _
    go_wp2_with fail
    go_ret
    exact ⟨rfl, ⟨r, HF.out.1.choose, M, HF.out.1.choose_spec⟩, HB1.out.drew.trans HF.out.2⟩
  · go_enter Tryz.func7, Tryz.ntmps7
    go_wp2_with fail
    rw [HHB.out]
    clear hlx c0 c1 c2 c3 c4 c5 c6 c7 c8 hw1
    obtain ⟨hlx, c0, c1, c2, c3, c4, c5, c6, c7, c8⟩ := HX1.out.o9
    refine (cP _).mono ?_
    rintro e wq ⟨rfl, rfl⟩
    clear cP
    have HSW : Hid (w0.heap.size ≤ w1.heap.size) := Lib.hid (by have := HB0.out.size; have := HB1.out.size; omega)
    have cL := stlast_any T r most L id w1 HK.out.tab
    rcases hfs : findS id L with _ | s
    · rw [show seqOf id L = 0 by unfold seqOf; rw [hfs], show repOf id L = ⟨0, 0, 0, 0, ⟨#[]⟩⟩ by unfold repOf; rw [hfs]; rfl, hfs] at cL
      have HFS := Lib.hid hfs
      clear hfs
      dsimp only [Option.isSome] at cL
      go_wp2_with fail
      refine cL.mono ?_
      rintro e w2 ⟨rfl, b2⟩
      have hF := b2.trans ((Ss.below_alloc w2 (.cells (cs5 0 0 0 0 ⟨#[]⟩) 34)).mono b2.size)
      have HP := Lib.hid (Blk.new w2 (cs5 0 0 0 0 ⟨#[]⟩) 34)
      clear cL b2 c0 c1 c2 c3 c4 c5 c6 c7 c8
      go_upto_region 13 with fail
      generalize hw3 : w2.alloc (.cells (cs5 0 0 0 0 ⟨#[]⟩) 34) = w3 at *
      obtain ⟨G, hG⟩ : ∃ G, w2.heap.size = G := ⟨_, rfl⟩
      rw [hG] at HP
      try rw [hG]
      clear hw3 hG
      have HK3 := Lib.hid (HK.out.later hF)
      have HW3 := Lib.hid (HB1.out.trans (hF.mono HSW.out))
      obtain ⟨-, d0, d1, d2, d3, d4, d5, d6, d7, d8⟩ := (HX1.out.later hF).o9
      have cF := rtfind_any w0.heap.size Tw most v L id w3 HK3.out.rt hl64
      clear hF
      go_wp2_with fail
      refine cF.mono ?_
      rintro e w4 ⟨⟨z, rfl, hz⟩, rfl⟩
      rcases hz.find HU.out.up with ⟨rfl, -⟩ | ⟨k, hk, rfl, hid, hfs⟩
      · obtain ⟨hGl, y0, y1, y2, y3, y4⟩ := HP.out.c5
        have heq := fun W => eql_rep 0 0 0 0 ⟨#[]⟩ 0 0 0 0 ⟨#[]⟩ W
        rw [show sameR 0 0 0 0 ⟨#[]⟩ 0 0 0 0 ⟨#[]⟩ = true from (sameR_iff _ _ _ _ _ _ _ _ _ _).2 ⟨rfl, rfl, rfl, rfl, rfl⟩] at heq
        clear cF hz d0 d1 d2 d3 d4 d5 d6 d7 d8
        go_wp2_with fail
        go_ret
        exact ⟨rfl, ⟨r, v, L, HK3.out⟩, HW3.out⟩
      · rw [HFS.out] at hfs; cases hfs
    · rw [show seqOf id L = s.seq by unfold seqOf; rw [hfs], show repOf id L = s.r by unfold repOf; rw [hfs], hfs] at cL
      have HFS := Lib.hid hfs
      clear hfs
      obtain ⟨sid, sus, sq, sr⟩ := s
      obtain ⟨ex, nx, kx, mx, tx⟩ := sr
      dsimp only [Option.isSome, Rp.v5] at cL
      go_wp2_with fail
      refine cL.mono ?_
      rintro e w2 ⟨rfl, b2⟩
      have hF := b2.trans ((Ss.below_alloc w2 (.cells (cs5 ex nx kx mx tx) 34)).mono b2.size)
      have HP := Lib.hid (Blk.new w2 (cs5 ex nx kx mx tx) 34)
      clear cL b2 c0 c1 c2 c3 c4 c5 c6 c7 c8
      go_upto_region 13 with fail
      generalize hw3 : w2.alloc (.cells (cs5 ex nx kx mx tx) 34) = w3 at *
      obtain ⟨G, hG⟩ : ∃ G, w2.heap.size = G := ⟨_, rfl⟩
      rw [hG] at HP
      try rw [hG]
      clear hw3 hG
      have HK3 := Lib.hid (HK.out.later hF)
      have HW3 := Lib.hid (HB1.out.trans (hF.mono HSW.out))
      obtain ⟨-, d0, d1, d2, d3, d4, d5, d6, d7, d8⟩ := (HX1.out.later hF).o9
      have cF := rtfind_any w0.heap.size Tw most v L id w3 HK3.out.rt hl64
      clear hF
      go_wp2_with fail
      refine cF.mono ?_
      rintro e w4 ⟨⟨z, rfl, hz⟩, rfl⟩
      rcases hz.find HU.out.up with ⟨rfl, hfs⟩ | ⟨k, hk, rfl, hid, hfs⟩
      · rw [HFS.out] at hfs; cases hfs
      · rw [HFS.out] at hfs
        injection hfs with hfs
        clear cF hz d0 d1 d2 d3 d4 d5 d6 d7 d8 hid
        obtain ⟨hGl, y0, y1, y2, y3, y4⟩ := HP.out.c5
        obtain ⟨hTl3, d0, -, -⟩ := HK3.out.rt.cells
        obtain ⟨g, cp, hA⟩ := HK3.out.rt.at hk
        obtain ⟨hv, -, hlt3, z0, z1, z2, z3, z4, z5, z6, z7, -⟩ := hA
        rw [hv] at d0
        rw [← hfs] at z0 z1 z2 z3 z4 z5 z6 z7
        dsimp only at z0 z1 z2 z3 z4 z5 z6 z7
        have z4' : w3.cell? ⟨g, k * 8 + 3 + 1, none⟩ = _ := z4
        have z5' : w3.cell? ⟨g, k * 8 + 3 + 2, none⟩ = _ := z5
        have z6' : w3.cell? ⟨g, k * 8 + 3 + 3, none⟩ = _ := z6
        have z7' : w3.cell? ⟨g, k * 8 + 3 + 4, none⟩ = _ := z7
        have heq := fun W => eql_rep ex nx kx mx tx ex nx kx mx tx W
        rw [show sameR ex nx kx mx tx ex nx kx mx tx = true from (sameR_iff _ _ _ _ _ _ _ _ _ _).2 ⟨rfl, rfl, rfl, rfl, rfl⟩] at heq
        have hkz : ¬ (k : Int) < 0 := by omega
        clear z4 z5 z6 z7 hv hfs
        go_upto_region 16 with fail
        go_quiet (fail)
        go_wp2_with fail
        go_ret
        refine ⟨rfl, ⟨r, v, L, HK3.out.later (Ss.below_drw (Below.refl _ _) _)⟩, ?_⟩
        exact Ss.below_drw HW3.out _
  · go_enter Tryz.func7, Tryz.ntmps7
    go_wp2_with fail
    rw [HHB.out]
    clear hlx c0 c1 c2 c3 c4 c5 c6 c7 c8 hw1
    obtain ⟨hlx, c0, c1, c2, c3, c4, c5, c6, c7, c8⟩ := HX1.out.o9
    refine (cP _).mono ?_
    rintro e wq ⟨rfl, rfl⟩
    clear cP
    have cp := stput_any T r most L w1 HK.out.tab
    have hYl := tabB_len HU.out
    obtain ⟨Y, hY⟩ : ∃ Y, tabB L = Y := ⟨_, rfl⟩
    rw [hY] at cp hYl
    have HY := Lib.hid hY
    clear hY c0 c1 c2 c3 c4 c5 c6 c7 c8
    go_wp2_with fail
    refine cp.mono ?_
    rintro e w2 ⟨A, cap, rfl, hBb, hcb, -, b2⟩
    have cn := new_any A Y cap w2 (by omega) hBb hcb
    have HW2 := Lib.hid b2
    clear b2 cp hBb hcb
    go_wp2_with fail
    refine cn.mono ?_
    rintro e w3 ⟨g, rfl, hR, b3⟩
    have HW3 : Hid (Below w1.heap.size w1 w3) := Lib.hid (HW2.out.trans (b3.mono HW2.out.size))
    have HK3 := Lib.hid (HK.out.later HW3.out)
    have hgN : w2.heap.size ≤ g := hR.1
    have s2 := HW2.out.size
    have s1 := HB1.out.size
    have s0 := HB0.out.size
    have s3 := HW3.out.size
    have cL := stload_any w2.heap.size g T r most L L w3 HU.out HK3.out.tab (by rw [HY.out]; exact hR) (by omega) (by omega) w0 (HT.out w0 (Below.refl _ _)) (HB0.out.trans (HB1.out.trans (HW3.out.mono (by omega)))) (by omega)
    have HGO : Hid (∀ W, But2 g T w3 W → Below w0.heap.size w3 W ∧ RT W w0.heap.size Tw most v L) := Lib.hid fun W hW => ⟨hW.below (by omega) HK3.out.bT (by omega), HK3.out.rt.other hW (by omega) HK3.out.n1.symm (fun k hk => ⟨by have := (HK.out.rt.row.lt k hk).2; omega, (HK3.out.n3 k hk).1⟩)⟩
    have HS3 : Hid (w0.heap.size ≤ w1.heap.size) := Lib.hid (by omega)
    clear cn hR b3 hgN s0 s1 s2 s3
    go_wp2_with fail
    refine cL.mono ?_
    rintro e w4 ⟨m, rfl, hm, KL, RL, BL⟩
    have cE := end_any _ _ _ _ RL
    rw [show (!(([] : List UInt8), false).2 && (([] : List UInt8), false).1.length == 0) = true by rfl] at cE
    have HF := Lib.hid (HK3.out.step KL (HGO.out _ BL).1 BL.size (.inr hm) (RtTo.refl (HGO.out _ BL).2))
    clear cL hm KL RL BL
    go_wp2_with fail
    refine cE.mono ?_
    rintro e w5 ⟨rfl, rfl⟩
    go_wp2_with fail
    go_ret
    exact ⟨rfl, ⟨m, HF.out.1.choose, L, HF.out.1.choose_spec⟩, HB1.out.trans ((HW3.out.mono HS3.out).trans HF.out.2)⟩
  · go_enter Tryz.func7, Tryz.ntmps7
    go_wp2_with fail
    rw [HHB.out]
    clear hlx c0 c1 c2 c3 c4 c5 c6 c7 c8 hw1
    obtain ⟨hlx, c0, c1, c2, c3, c4, c5, c6, c7, c8⟩ := HX1.out.o9
    refine (cP _).mono ?_
    rintro e wq ⟨rfl, rfl⟩
    clear cP
    have cp := bytes_any Bb X bc w1 (by omega) (HXX.out.below (HB0.out.trans HB1.out)) hXn
    go_wp2_with fail
    refine cp.mono ?_
    rintro e w2 ⟨A, cap, rfl, hBb, hcb, -, b2⟩
    have cn := new_any A X cap w2 (by omega) hBb hcb
    have HW2 := Lib.hid b2
    clear b2 cp hBb hcb c0 c1 c2 c3 c4 c5 c6 c7 c8
    go_wp2_with fail
    refine cn.mono ?_
    rintro e w3 ⟨g, rfl, hR, b3⟩
    have s2 := HW2.out.size
    have s1 := HB1.out.size
    have s0 := HB0.out.size
    have hW3 : Below w1.heap.size w1 w3 := HW2.out.trans (b3.mono HW2.out.size)
    have s3 := hW3.size
    have hgN : w2.heap.size ≤ g := hR.1
    have hgl := hR.lt
    obtain ⟨-, d0, d1, d2, d3, d4, d5, d6, d7, d8⟩ := (HX1.out.later hW3).o9
    have b4 := Ss.below_alloc w3 (.cells #[.slice Bb X.length bc, .int .i64 0, .bool false] 63)
    have hW4 := hW3.trans (b4.mono s3)
    have HQ := Lib.hid (Blk.new w3 #[.slice Bb X.length bc, .int .i64 0, .bool false] 63)
    have hR4 := hR.below b4 (Nat.le_refl _)
    have s4 := b4.size
    clear cn hR b3 b4
    go_upto_region 22 with fail
    generalize hw4 : w3.alloc (.cells #[.slice Bb X.length bc, .int .i64 0, .bool false] 63) = w4 at *
    have hz4 : w4.heap.size = w3.heap.size + 1 := by rw [← hw4]; simp
    obtain ⟨q, hq⟩ : ∃ q, w3.heap.size = q := ⟨_, rfl⟩
    rw [hq] at HQ hgl s3 hz4
    try rw [hq]
    clear hw4 d0 d1 d2 d3 d4 d5 d6 d7 d8 hlx
    have HW4 := Lib.hid (HB1.out.trans (hW4.mono (by omega)))
    have dd := (Below.refl w4.heap.size w4).drew
    have HK4 := Lib.hid ((HK.out.later hW4).later dd)
    have hR5 : Rd w2.heap.size w4.drew g (X, false) := hR4
    have HOK : Hid (∀ W, Below w0.heap.size w4.drew W → Blk W q 63 #[.slice Bb X.length bc, .int .i64 0, .bool false] → RR W q (X, false)) := Lib.hid fun W hW hb => ⟨Bb, X, bc, 0, ⟨hb, HXX.out.below (HB0.out.trans (HW4.out.drew.trans hW)), hXc, by omega, Nat.zero_le _⟩, rfl⟩
    have cL := stload_at w2.heap.size g T r most L (X, false) w4.drew HK4.out.tab hR5 (by omega) (by omega) (by omega) w0 (HT.out w0 (Below.refl _ _)) (HB0.out.trans HW4.out.drew) (by omega)
    have HN : Hid (g ≠ q ∧ q ≠ T ∧ q ≠ r ∧ w0.heap.size ≤ g ∧ w0.heap.size ≤ q ∧ q < w4.drew.heap.size ∧ Tw < w2.heap.size ∧ q ≠ Tw ∧ ∀ k, v.ownBlock = some k → k ≠ q) := Lib.hid ⟨by omega, by omega, by omega, by omega, by omega, by show q < w4.heap.size; omega, by omega, by omega, fun k hk => by have := (HK.out.rt.row.lt k hk).2; omega⟩
    clear hR4 hR5 dd hW3 hW4 s0 s1 s2 s3 s4 hgN hgl hz4 hq
    refine wp_region_held_drew (S := fun _ => True) (by kernel_rfl) (trivial) (fun hHeld => ?_)
    refine held_take (i := 0) (v := ?_) rfl (by kernel_rfl) (by kernel_rfl) (by kernel_rfl) (fun _ _ _ h => h) (by rfl) hHeld ?_ ?_
    rotate_left
    · intro wz hSz; go_simp; try with_reducible rfl
    simp only [Act.put, List.setIfInBounds_toArray, List.set_cons_zero, List.set_cons_succ]
    refine held_take (i := 1) (v := ?_) rfl (by kernel_rfl) (by kernel_rfl) (by kernel_rfl) (fun _ _ _ h => h) (by rfl) hHeld ?_ ?_
    rotate_left
    · intro wz hSz; go_simp; try with_reducible rfl
    simp only [Act.put, List.setIfInBounds_toArray, List.set_cons_zero, List.set_cons_succ]
    refine held_take (i := 3) (v := ?_) rfl (by kernel_rfl) (by kernel_rfl) (by kernel_rfl) (fun _ _ _ h => h) (by rfl) hHeld ?_ ?_
    rotate_left
    · intro wz hSz; go_simp; try with_reducible rfl
    simp only [Act.put, List.setIfInBounds_toArray, List.set_cons_zero, List.set_cons_succ]
    refine held_take (i := 4) (v := ?_) rfl (by kernel_rfl) (by kernel_rfl) (by kernel_rfl) (fun _ _ _ h => h) (by rfl) hHeld ?_ ?_
    rotate_left
    · intro wz hSz; go_simp; try with_reducible rfl
    simp only [Act.put, List.setIfInBounds_toArray, List.set_cons_zero, List.set_cons_succ]
    refine held_call (i := 2) (by kernel_rfl) rfl (by rfl) (by go_simp; try with_reducible rfl) cL ?_
    rintro e w5 h5
    obtain ⟨bl, s', M, m, rfl, b5, K5, hm, R5, h6⟩ := LoadT.cases h5
    refine ⟨_, rfl, trivial, ?_⟩
    have HB5 := Lib.hid (b5.below HN.out.2.2.2.1 HK4.out.bT (by have := HK4.out.tab.lt; have := HK4.out.bT; omega) : Below w0.heap.size w4.drew w5)
    have hQ5 : Blk w5 q _ _ := (b5.block q HN.out.2.2.2.2.2.1 HN.out.1.symm HN.out.2.1).trans HQ.out
    have cD := rtload_any w0.heap.size Tw most v L q (X, false) w5 (HK4.out.rt.other b5 (by have := HK4.out.rt.blk.lt; have := R5.1; have := HN.out.2.2.2.2.2.2.1; omega) HK4.out.n1.symm (fun k hk => ⟨by have := (HK.out.rt.row.lt k hk).2; have := R5.1; have := HW2.out.size; omega, (HK4.out.n3 k hk).1⟩)) HU.out.lo HU.out.hi (HOK.out w5 HB5.out hQ5) HN.out.2.2.2.2.2.2.2.1 HN.out.2.2.2.2.2.2.2.2 (by show X.length ≤ _; omega)
    have HQ5 := Lib.hid hQ5
    have HFF := Lib.hid (fun (v' : Value) (w6 : World) (h1 : RT w6 w0.heap.size Tw most v' M) (h2 : But2 Tw q w5 w6) (h3 : v' = v ∨ ∀ k, v'.ownBlock = some k → w5.heap.size ≤ k) => HK4.out.load HN.out.2.2.2.1 HN.out.2.2.2.2.1 HN.out.2.2.2.2.2.1 HN.out.2.1 HN.out.2.2.1 K5 hm b5 h1 h2 h3)
    have HRD := Lib.hid (fun (w6 : World) (h2 : But2 Tw q w5 w6) => R5.but HQ5.out (by simp [noU8]) h2 HN.out.2.2.2.2.2.2.1 HN.out.1)
    have H6 := Lib.hid (fun e6 w6 h => h6 w0.heap.size Tw q v w5 e6 w6 h)
    clear cL h5 b5 K5 hm R5 h6 hQ5
    simp only [Act.put, List.setIfInBounds_toArray, List.set_cons_zero, List.set_cons_succ]
    refine held_call (i := 5) (by kernel_rfl) rfl (by rfl) (by go_simp; try with_reducible rfl) cD ?_
    rintro e w6 h6
    obtain ⟨rfl, b6, ⟨v', hR6, hv'⟩, hRR⟩ := H6.out _ _ h6
    refine ⟨_, rfl, trivial, ?_⟩
    have HEND := Lib.hid (HFF.out v' w6 hR6 b6 hv')
    have hRd := HRD.out w6 b6
    have cO := ok_any _ _ _ _ hRd
    have cT := left_any _ _ _ _ hRd
    have cQ := refleft_any _ _ _ hRR
    obtain ⟨lx, bx⟩ := s'
    obtain ⟨Aq, Cq, capq, atq, hq1, -⟩ := hRR
    have hq2 := hq1.cells.2.2.1
    dsimp only at hq2 cO cT cQ
    obtain ⟨nx, hnx⟩ : ∃ nx : Int, (lx.length : Int) = nx := ⟨_, rfl⟩
    rw [hnx] at cT cQ
    clear cD h6 hv' hR6 b6 hRd hq1 hnx HRD H6 HFF
    simp only [Act.put, List.setIfInBounds_toArray, List.set_cons_zero, List.set_cons_succ]
    refine held_take (i := 6) (v := .bool true) rfl (by kernel_rfl) (by kernel_rfl) (by kernel_rfl) (fun _ _ _ h => h) (by rfl) hHeld ?_ ?_
    · intro wz hSz; (go_simp; first | done | rfl | simp)
    simp only [Act.put, List.setIfInBounds_toArray, List.set_cons_zero, List.set_cons_succ]
    refine held_take (i := 7) (v := ?_) rfl (by kernel_rfl) (by kernel_rfl) (by kernel_rfl) (fun _ _ _ h => h) (by rfl) hHeld ?_ ?_
    rotate_left
    · intro wz hSz; go_simp; try with_reducible rfl
    simp only [Act.put, List.setIfInBounds_toArray, List.set_cons_zero, List.set_cons_succ]
    refine held_take (i := 8) (v := ?_) rfl (by kernel_rfl) (by kernel_rfl) (by kernel_rfl) (fun _ _ _ h => h) (by rfl) hHeld ?_ ?_
    rotate_left
    · intro wz hSz; go_simp; try with_reducible rfl
    simp only [Act.put, List.setIfInBounds_toArray, List.set_cons_zero, List.set_cons_succ]
    refine held_take (i := 10) (v := ?_) rfl (by kernel_rfl) (by kernel_rfl) (by kernel_rfl) (fun _ _ _ h => h) (by rfl) hHeld ?_ ?_
    rotate_left
    · intro wz hSz; go_simp; try with_reducible rfl
    simp only [Act.put, List.setIfInBounds_toArray, List.set_cons_zero, List.set_cons_succ]
    refine held_take (i := 11) (v := ?_) rfl (by kernel_rfl) (by kernel_rfl) (by kernel_rfl) (fun _ _ _ h => h) (by rfl) hHeld ?_ ?_
    rotate_left
    · intro wz hSz; go_simp; try with_reducible rfl
    simp only [Act.put, List.setIfInBounds_toArray, List.set_cons_zero, List.set_cons_succ]
    refine held_take (i := 12) (v := ?_) rfl (by kernel_rfl) (by kernel_rfl) (by kernel_rfl) (fun _ _ _ h => h) (by rfl) hHeld ?_ ?_
    rotate_left
    · intro wz hSz; go_simp; try with_reducible rfl
    simp only [Act.put, List.setIfInBounds_toArray, List.set_cons_zero, List.set_cons_succ]
    refine held_call_read (i := 9) (j := 13) (v2 := .bool bx) (by kernel_rfl) rfl rfl (by rfl) (by rfl) trivial (by go_simp; try with_reducible rfl) (by go_simp; try with_reducible rfl) cO ?_ ?_
    · rintro e w7 ⟨rfl, rfl⟩
      refine ⟨_, rfl, trivial, ?_⟩
      simp only [Act.put, List.setIfInBounds_toArray, List.set_cons_zero, List.set_cons_succ]
      refine held_read (i := 13) (v := ?_) (by kernel_rfl) rfl (by rfl) hHeld ?_ ?_
      rotate_left
      · go_simp; try with_reducible rfl
      simp only [Act.put, List.setIfInBounds_toArray, List.set_cons_zero, List.set_cons_succ]
      refine held_take (i := 14) (v := ?_) rfl (by kernel_rfl) (by kernel_rfl) (by kernel_rfl) (fun _ _ _ h => h) (by rfl) hHeld ?_ ?_
      rotate_left
      · intro wz hSz; go_simp; try with_reducible rfl
      simp only [Act.put, List.setIfInBounds_toArray, List.set_cons_zero, List.set_cons_succ]
      refine held_take (i := 15) (v := .bool true) rfl (by kernel_rfl) (by kernel_rfl) (by kernel_rfl) (fun _ _ _ h => h) (by rfl) hHeld ?_ ?_
      · intro wz hSz; (go_simp; first | done | rfl | simp)
      simp only [Act.put, List.setIfInBounds_toArray, List.set_cons_zero, List.set_cons_succ]
      refine held_take (i := 16) (v := ?_) rfl (by kernel_rfl) (by kernel_rfl) (by kernel_rfl) (fun _ _ _ h => h) (by rfl) hHeld ?_ ?_
      rotate_left
      · intro wz hSz; go_simp; try with_reducible rfl
      simp only [Act.put, List.setIfInBounds_toArray, List.set_cons_zero, List.set_cons_succ]
      refine held_take (i := 17) (v := ?_) rfl (by kernel_rfl) (by kernel_rfl) (by kernel_rfl) (fun _ _ _ h => h) (by rfl) hHeld ?_ ?_
      rotate_left
      · intro wz hSz; go_simp; try with_reducible rfl
      simp only [Act.put, List.setIfInBounds_toArray, List.set_cons_zero, List.set_cons_succ]
      refine held_take (i := 18) (v := ?_) rfl (by kernel_rfl) (by kernel_rfl) (by kernel_rfl) (fun _ _ _ h => h) (by rfl) hHeld ?_ ?_
      rotate_left
      · intro wz hSz; go_simp; try with_reducible rfl
      simp only [Act.put, List.setIfInBounds_toArray, List.set_cons_zero, List.set_cons_succ]
      refine held_take (i := 20) (v := ?_) rfl (by kernel_rfl) (by kernel_rfl) (by kernel_rfl) (fun _ _ _ h => h) (by rfl) hHeld ?_ ?_
      rotate_left
      · intro wz hSz; go_simp; try with_reducible rfl
      simp only [Act.put, List.setIfInBounds_toArray, List.set_cons_zero, List.set_cons_succ]
      refine held_call (i := 19) (by kernel_rfl) rfl (by rfl) (by go_simp; try with_reducible rfl) cT ?_
      rintro e w7 ⟨rfl, rfl⟩
      refine ⟨_, rfl, trivial, ?_⟩
      simp only [Act.put, List.setIfInBounds_toArray, List.set_cons_zero, List.set_cons_succ]
      refine held_call (i := 21) (by kernel_rfl) rfl (by rfl) (by go_simp; try with_reducible rfl) cQ ?_
      rintro e w8 ⟨rfl, nn, hnn⟩
      refine ⟨_, rfl, trivial, ?_⟩
      simp only [Act.put, List.setIfInBounds_toArray, List.set_cons_zero, List.set_cons_succ]
      refine held_take (i := 22) (v := .bool true) rfl (by kernel_rfl) (by kernel_rfl) (by kernel_rfl) (fun _ _ _ h => h) (by rfl) hHeld ?_ ?_
      · intro wz hSz; (go_simp; first | done | rfl | simp)
      simp only [Act.put, List.setIfInBounds_toArray, List.set_cons_zero, List.set_cons_succ]
      refine held_take (i := 23) (v := ?_) rfl (by kernel_rfl) (by kernel_rfl) (by kernel_rfl) (fun _ _ _ h => h) (by rfl) hHeld ?_ ?_
      rotate_left
      · intro wz hSz; go_simp; try with_reducible rfl
      simp only [Act.put, List.setIfInBounds_toArray, List.set_cons_zero, List.set_cons_succ]
      refine held_take (i := 24) (v := ?_) rfl (by kernel_rfl) (by kernel_rfl) (by kernel_rfl) (fun _ _ _ h => h) (by rfl) hHeld ?_ ?_
      rotate_left
      · intro wz hSz; go_simp; try with_reducible rfl
      simp only [Act.put, List.setIfInBounds_toArray, List.set_cons_zero, List.set_cons_succ]
      refine wpAnyH_done (by kernel_rfl) ?_ _
      go_wp2_with fail
      go_ret
      subst hnn
      exact ⟨rfl, ⟨m, v', M, HEND.out.1.later (Ss.below_drw (Below.refl _ _) _)⟩, Ss.below_drw (HW4.out.drew.trans HEND.out.2) _⟩
    · simp only [Act.put, List.setIfInBounds_toArray, List.set_cons_zero, List.set_cons_succ]
      refine held_take (i := 14) (v := ?_) rfl (by kernel_rfl) (by kernel_rfl) (by kernel_rfl) (fun _ _ _ h => h) (by rfl) hHeld ?_ ?_
      rotate_left
      · intro wz hSz; go_simp; try with_reducible rfl
      simp only [Act.put, List.setIfInBounds_toArray, List.set_cons_zero, List.set_cons_succ]
      refine held_call (i := 9) (by kernel_rfl) rfl (by rfl) (by go_simp; try with_reducible rfl) cO ?_
      rintro e w7 ⟨rfl, rfl⟩
      refine ⟨_, rfl, trivial, ?_⟩
      simp only [Act.put, List.setIfInBounds_toArray, List.set_cons_zero, List.set_cons_succ]
      refine held_take (i := 15) (v := .bool true) rfl (by kernel_rfl) (by kernel_rfl) (by kernel_rfl) (fun _ _ _ h => h) (by rfl) hHeld ?_ ?_
      · intro wz hSz; (go_simp; first | done | rfl | simp)
      simp only [Act.put, List.setIfInBounds_toArray, List.set_cons_zero, List.set_cons_succ]
      refine held_take (i := 16) (v := ?_) rfl (by kernel_rfl) (by kernel_rfl) (by kernel_rfl) (fun _ _ _ h => h) (by rfl) hHeld ?_ ?_
      rotate_left
      · intro wz hSz; go_simp; try with_reducible rfl
      simp only [Act.put, List.setIfInBounds_toArray, List.set_cons_zero, List.set_cons_succ]
      refine held_take (i := 17) (v := ?_) rfl (by kernel_rfl) (by kernel_rfl) (by kernel_rfl) (fun _ _ _ h => h) (by rfl) hHeld ?_ ?_
      rotate_left
      · intro wz hSz; go_simp; try with_reducible rfl
      simp only [Act.put, List.setIfInBounds_toArray, List.set_cons_zero, List.set_cons_succ]
      refine held_take (i := 18) (v := ?_) rfl (by kernel_rfl) (by kernel_rfl) (by kernel_rfl) (fun _ _ _ h => h) (by rfl) hHeld ?_ ?_
      rotate_left
      · intro wz hSz; go_simp; try with_reducible rfl
      simp only [Act.put, List.setIfInBounds_toArray, List.set_cons_zero, List.set_cons_succ]
      refine held_take (i := 20) (v := ?_) rfl (by kernel_rfl) (by kernel_rfl) (by kernel_rfl) (fun _ _ _ h => h) (by rfl) hHeld ?_ ?_
      rotate_left
      · intro wz hSz; go_simp; try with_reducible rfl
      simp only [Act.put, List.setIfInBounds_toArray, List.set_cons_zero, List.set_cons_succ]
      refine held_call (i := 19) (by kernel_rfl) rfl (by rfl) (by go_simp; try with_reducible rfl) cT ?_
      rintro e w7 ⟨rfl, rfl⟩
      refine ⟨_, rfl, trivial, ?_⟩
      simp only [Act.put, List.setIfInBounds_toArray, List.set_cons_zero, List.set_cons_succ]
      refine held_call (i := 21) (by kernel_rfl) rfl (by rfl) (by go_simp; try with_reducible rfl) cQ ?_
      rintro e w8 ⟨rfl, nn, hnn⟩
      refine ⟨_, rfl, trivial, ?_⟩
      simp only [Act.put, List.setIfInBounds_toArray, List.set_cons_zero, List.set_cons_succ]
      refine held_take (i := 22) (v := .bool true) rfl (by kernel_rfl) (by kernel_rfl) (by kernel_rfl) (fun _ _ _ h => h) (by rfl) hHeld ?_ ?_
      · intro wz hSz; (go_simp; first | done | rfl | simp)
      simp only [Act.put, List.setIfInBounds_toArray, List.set_cons_zero, List.set_cons_succ]
      refine held_take (i := 23) (v := ?_) rfl (by kernel_rfl) (by kernel_rfl) (by kernel_rfl) (fun _ _ _ h => h) (by rfl) hHeld ?_ ?_
      rotate_left
      · intro wz hSz; go_simp; try with_reducible rfl
      simp only [Act.put, List.setIfInBounds_toArray, List.set_cons_zero, List.set_cons_succ]
      refine held_take (i := 24) (v := ?_) rfl (by kernel_rfl) (by kernel_rfl) (by kernel_rfl) (fun _ _ _ h => h) (by rfl) hHeld ?_ ?_
      rotate_left
      · intro wz hSz; go_simp; try with_reducible rfl
      simp only [Act.put, List.setIfInBounds_toArray, List.set_cons_zero, List.set_cons_succ]
      refine wpAnyH_done (by kernel_rfl) ?_ _
      go_wp2_with fail
      go_ret
      subst hnn
      exact ⟨rfl, ⟨m, v', M, HEND.out.1.later (Ss.below_drw (Below.refl _ _) _)⟩, Ss.below_drw (HW4.out.drew.trans HEND.out.2) _⟩
end
end Go.Proofs.YtindkpfmflcibaaGreatDoor
