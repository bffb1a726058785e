/- The program's Reach. -/
import Derived.Test.YtbacphifmbjooaaGrC
namespace Go.Proofs.Ytbacphifmbjooaa
open Go.RowKit

/-- While there is one open. -/
structure Rin (n : Nat) (L : List (List Int)) (F : List Int) (D : Nat → Bool) (O : List Nat) : Prop where
  snd : ∀ i, D i = true → Rch n L F i
  frm : ∀ x ∈ F, inn n x = true → D x.toNat = true
  opn : ∀ o ∈ O, o < n ∧ D o = true
  cls : ∀ k, k < n → D k = true → k ∈ O ∨ ∀ i, i < n → (k : Int) ∈ rowL L i → D i = true
  num : O.length + cnt n D ≤ n
theorem mem_iz {O : List Nat} {x : Int} : x ∈ iz O ↔ ∃ k ∈ O, (k : Int) = x := by unfold iz; rw [List.mem_map]
theorem Rin.start {n : Nat} {L : List (List Int)} {F : List Int} {D : Nat → Bool} {O : List Nat} (h : Grw n (fun _ => false) [] D O F) : Rin n L F D O := by
  refine ⟨fun i hi => ?_, h.all, fun o ho => ?_, fun k hk hd => ?_, ?_⟩
  · rcases h.snd i hi with h1 | ⟨x, hx, hxi, rfl⟩
    · cases h1
    · exact .one hxi hx
  · rcases h.neu o ho with h1 | h1
    · cases h1
    · exact h1
  · rcases h.opn k hd with h1 | h1
    · cases h1
    · exact .inl h1
  · have := h.num
    rw [cnt_zero] at this
    simpa using Nat.le_of_eq this
theorem Rin.step {n k : Nat} {L : List (List Int)} {F : List Int} {D D2 : Nat → Bool} {O O2 N : List Nat} (h : Rin n L F D (O ++ [k])) (hN : ∀ j, j ∈ N ↔ j < n ∧ (k : Int) ∈ rowL L j) (hg : Grw n D O D2 O2 (iz N)) : Rin n L F D2 O2 := by
  obtain ⟨hkn, hdk⟩ := h.opn k (List.mem_append_right _ (List.mem_singleton.2 rfl))
  have hrk := h.snd k hdk
  refine ⟨fun i hi => ?_, fun x hx hi => hg.mono _ (h.frm x hx hi), fun o ho => ?_, fun k' hk' hd => ?_, ?_⟩
  · rcases hg.snd i hi with h1 | ⟨x, hx, hxi, rfl⟩
    · exact h.snd i h1
    · obtain ⟨j, hj, rfl⟩ := mem_iz.1 hx
      rw [Int.toNat_natCast]
      obtain ⟨h1, h2⟩ := (hN j).1 hj
      exact .more h1 h2 (inn_nat hkn) (by simpa using hrk)
  · rcases hg.neu o ho with h1 | h1
    · obtain ⟨h2, h3⟩ := h.opn o (List.mem_append_left _ h1)
      exact ⟨h2, hg.mono _ h3⟩
    · exact h1
  · rcases hg.opn k' hd with h1 | h1
    · rcases h.cls k' hk' h1 with h2 | h2
      · rcases List.mem_append.1 h2 with h3 | h3
        · exact .inl (hg.sub _ h3)
        · rw [List.mem_singleton.1 h3]
          refine .inr fun i hi hx => ?_
          have := hg.all (i : Int) (mem_iz.2 ⟨i, (hN i).2 ⟨hi, hx⟩, rfl⟩) (inn_nat hi)
          simpa using this
      · exact .inr fun i hi hx => hg.mono _ (h2 i hi hx)
    · exact .inl h1
  · have := hg.num
    have := h.num
    rw [List.length_append, List.length_singleton] at this
    omega
theorem Rin.done {n : Nat} {L : List (List Int)} {F : List Int} {D : Nat → Bool} (h : Rin n L F D []) : iz (those n D true) = reachZ n L F := by
  refine reachZ_of (Right.of (fun i _ hi => h.snd i hi) h.frm fun i hi x hx hxi hd => ?_)
  obtain ⟨h1, h2⟩ := inn_lt hxi
  rcases h.cls x.toNat h1 hd with h3 | h3
  · cases h3
  · exact h3 i hi (by rw [h2]; exact hx)
noncomputable def reachI (n : Int) (L : List (List Int)) (F : List Int) : List Int := if mayB n then reachZ n.toNat L F else []
theorem reach_len (n : Nat) (L : List (List Int)) (F : List Int) : (reachZ n L F).length ≤ n := by
  unfold reachZ; rw [iz_len]; exact those_le _ _ _
/-- The worklist as it begins. -/
theorem RS.start {w1 : World} {n b0 : Nat} (h0 : b0 < w1.heap.size) (hc : w1.cell? ⟨b0, 0, none⟩ = some (.int .i64 (n : Int))) :
    RS w1 n b0 (fun _ => false) [] (.slice none 0 0) (((w1.alloc (.cells (madeCells #[.bool false] n) 4)).alloc (.cells #[.slice (some ⟨w1.heap.size, 0, none⟩) n n] 35)).alloc (.cells #[.slice none 0 0] 26)) := by
  have hb : Below w1.heap.size w1 (((w1.alloc (.cells (madeCells #[.bool false] n) 4)).alloc (.cells #[.slice (some ⟨w1.heap.size, 0, none⟩) n n] 35)).alloc (.cells #[.slice none 0 0] 26)) := (((Below.refl _ w1).alloc (Nat.le_refl _) _).alloc (by simp) _).alloc (by simp; omega) _
  have h2 : (w1.alloc (.cells (madeCells #[.bool false] n) 4)).heap.size = w1.heap.size + 1 := alloc_size _ _
  have h3 : ((w1.alloc (.cells (madeCells #[.bool false] n) 4)).alloc (.cells #[.slice (some ⟨w1.heap.size, 0, none⟩) n n] 35)).heap.size = w1.heap.size + 1 + 1 := by rw [alloc_size, h2]
  refine ⟨h0, (hb.cell (p := ⟨b0, 0, none⟩) h0).trans hc, ?_, ?_, ?_, ?_, World.ownsRow_nil _ _ _ _, ?_, hb⟩
  · have e := heap_alloc_new (w1.alloc (.cells (madeCells #[.bool false] n) 4)) (.cells #[.slice (some ⟨w1.heap.size, 0, none⟩) n n] 35)
    rw [h2] at e
    rw [cell_of_row _ (w1.heap.size + 1) 0 #[.slice (some ⟨w1.heap.size, 0, none⟩) n n] 35 (0, 0) ((Below.heap_alloc _ _ _ (by rw [h3]; omega)).trans e)]
    rfl
  · have e := heap_alloc_new ((w1.alloc (.cells (madeCells #[.bool false] n) 4)).alloc (.cells #[.slice (some ⟨w1.heap.size, 0, none⟩) n n] 35)) (.cells #[.slice none 0 0] 26)
    rw [h3] at e
    rw [cell_of_row _ _ 0 _ _ _ e]
    rfl
  · have e := heap_alloc_new ((w1.alloc (.cells (madeCells #[.bool false] n) 4)).alloc (.cells #[.slice (some ⟨w1.heap.size, 0, none⟩) n n] 35)) (.cells #[.slice none 0 0] 26)
    rw [h3] at e
    exact frozen_of_row _ _ 0 _ _ e
  · exact ((World.rowIs_made w1 (.bool false) n _).alloc _).alloc _
  · rw [alloc_size, h3]; exact Nat.le_refl _
/-- The last one of those open is taken. -/
theorem RS.pop {w1 wr : World} {n b0 k c : Nat} {D : Nat → Bool} {O : List Nat} {A : Option Addr} (h : RS w1 n b0 D (O ++ [k]) (.slice A (O.length + 1) c) wr) : RS w1 n b0 D O (.slice A O.length c) (wr.setCell ⟨w1.heap.size + 1 + 1, 0, none⟩ (.slice A O.length c)) := by
  have h0 := h.lt0
  have hs := h.size
  have hblk : ∀ b, b ≠ w1.heap.size + 1 + 1 → (wr.setCell ⟨w1.heap.size + 1 + 1, 0, none⟩ (.slice A O.length c)).heap[b]? = wr.heap[b]? := fun b hb => Below.heap_setCell _ _ _ _ (by dsimp only; omega)
  refine ⟨h0, ?_, ?_, ?_, ?_, h.row.setOther (by dsimp only; omega) _, ?_, ?_, h.base.setCell (by dsimp only; omega) _⟩
  · exact (World.cell?_of_block (w := wr) (a := ⟨b0, 0, none⟩) (hblk b0 (by omega))).trans h.c0
  · exact (World.cell?_of_block (w := wr) (a := ⟨w1.heap.size + 1, 0, none⟩) (hblk (w1.heap.size + 1) (by omega))).trans h.c8
  · exact World.cell?_setCell_same _ _ _ h.c9
  · rw [World.frozen?_setCell]; exact h.f9
  · have ho : OwnZ wr (w1.heap.size + 1 + 1 + 1) (.slice A O.length c) (iz O) := by
      have h1 := h.own
      rw [← iz_snoc] at h1
      refine ⟨by unfold zs; rw [List.length_map, Nat.mul_one], ?_⟩
      rcases h1.2 with ⟨e, _⟩ | ⟨g, cap, cur, e, hbg, hg, hnc, hcm, hcs, htk⟩
      · injection e with _ e _; omega
      · injection e with e1 e2 e3
        refine .inr ⟨g, cap, cur, by rw [e1, e3, iz_len], hbg, hg, ?_, hcm, hcs, ?_⟩
        · rw [List.length_append, List.length_singleton] at hnc; omega
        · rw [← zs_snoc, List.length_append, List.length_singleton] at htk
          have := congrArg (List.take (iz O).length) htk
          rw [List.take_take, List.take_left' (by unfold zs; rw [List.length_map])] at this
          rw [Nat.mul_one]
          rwa [Nat.min_eq_left (by omega)] at this
    exact own_stay ho fun b hb => hblk b (by have := (ho.lt b hb).1; omega)
  · simpa using hs
set_option maxHeartbeats 8000000 in
set_option maxRecDepth 100000 in
theorem reach_any (n : Int) (A : Option Addr) (L : List (List Int)) (cap : Nat) (B : Option Addr) (F : List Int) (cB : Nat) (w : World) (hlc : L.length ≤ cap) (hL : LL w A L) (hFl : F.length ≤ 17592186044416) (hF : Is w B F) :
    Calls Try.prog 16 #[.int .i64 n, .slice A L.length cap, .slice B F.length cB] w (OneEnd w (reachI n L F)) := by
  have hb0 := below_alloc w (.cells #[.int .i64 n] 3)
  have hc0 : (w.alloc (.cells #[.int .i64 n] 3)).cell? ⟨w.heap.size, 0, none⟩ = some (.int .i64 n) := by
    rw [cell_of_row _ _ 0 _ _ _ (heap_alloc_new w _)]; rfl
  have hs0 := alloc_size w (.cells #[.int .i64 n] 3)
  obtain ⟨wA, hwA⟩ : ∃ wA, w.alloc (.cells #[.int .i64 n] 3) = wA := ⟨_, rfl⟩
  rw [hwA] at hb0 hc0 hs0
  have cf := fits_any n wA
  have HB0 := Lib.hid hb0
  cases hm : mayB n with
  | false =>
    rw [hm] at cf
    rw [show reachI n L F = [] by unfold reachI; rw [hm]; rfl]
    clear hm hL hF hs0 hb0
    go_enter Try.func16, Try.ntmps16
    go_wp2_with fail
    (with_reducible refine cf.mono ?_)
    rintro e w1 ⟨rfl, rfl⟩
    clear cf
    go_wp2_with fail
    go_ret
    exact ⟨none, 0, rfl, by simp, by simp, Els.nil _ _, HB0.out⟩
  | true =>
    rw [hm] at cf
    obtain ⟨m, rfl, hm4⟩ := mayB_nat hm
    rw [show reachI (m : Int) L F = reachZ m L F by unfold reachI; rw [hm]; rfl]
    have cn := neededby_any m A L cap wA hm4 hlc (hL.below hb0)
    have hlen := reach_len m L F
    have hmk := mk_bools m (by omega)
    have HF := Lib.hid hF
    have HS0 := Lib.hid hs0
    have HC0 := Lib.hid hc0
    clear hm hL hF hs0 hb0
    obtain ⟨Z, hZ⟩ : ∃ Z, Z = reachZ m L F := ⟨_, rfl⟩
    have HZ := Lib.hid hZ
    rw [← hZ] at hlen ⊢
    clear hZ
    go_enter Try.func16, Try.ntmps16
    go_wp2_with fail
    (with_reducible refine cf.mono ?_)
    rintro e w0 ⟨rfl, rfl⟩
    clear cf
    go_wp2_with fail
    (with_reducible refine cn.mono ?_)
    rintro e w1 ⟨g, V, N, rfl, hrow, hV, hN, hb1⟩
    have hc1 : w1.cell? ⟨w.heap.size, 0, none⟩ = some (.int .i64 (m : Int)) := (hb1.cell (p := ⟨w.heap.size, 0, none⟩) (by have := HS0.out; dsimp only; omega)).trans HC0.out
    have hlt : w.heap.size < w1.heap.size := by have := HS0.out; have := hb1.size; omega
    have hrs := RS.start hlt hc1
    have HB1 := Lib.hid (HB0.out.trans (hb1.mono (by have := HS0.out; omega)))
    have HF1 := Lib.hid ((HF.out.below HB0.out).below hb1)
    have HROW := Lib.hid hrow
    have HV := Lib.hid hV
    have HN := Lib.hid hN
    have HRS := Lib.hid hrs
    have cc := clos_any w1 m w.heap.size B F cB _ _ _ _ hm4 hFl HF1.out hrs (by rw [cnt_zero]; simp)
    clear cn hrow hV hN hb1 hrs
    go_wp2_with fail
    (with_reducible refine cc.mono ?_)
    rintro e w2 ⟨rfl, D, O, v, hrs2, hg⟩
    have H0 : Hid (∃ D O v, O.length + cnt m D ≤ m ∧ RS w1 m w.heap.size D O v w2 ∧ Rin m L F D O) := Lib.hid ⟨D, O, v, (Rin.start (L := L) hg).num, hrs2, Rin.start hg⟩
    clear cc hrs2 hg HRS hmk
    go_wp2_with fail
    go_loopg [] (m) (fun q wr => ∃ (D : Nat → Bool) (O : List Nat) (v : Value), O.length + cnt m D ≤ q ∧ Hid (RS w1 m w.heap.size D O v wr) ∧ Hid (Rin m L F D O))
    case atStart => obtain ⟨D, O, v, h1, h2, h3⟩ := H0.out; exact ⟨D, O, v, h1, Lib.hid h2, Lib.hid h3⟩
    case round =>
      clear H0
      obtain ⟨D, O, v, hq, HS, HR⟩ := hrel
      have HQ := Lib.hid hq
      obtain ⟨A', c', rfl, hlc', hcells, -⟩ := els_own (d := (0 : Int)) HS.out.own
      have h9 := HS.out.c9
      have h8 := HS.out.c8
      have f9 := HS.out.f9
      clear hq
      rcases List.eq_nil_or_concat O with rfl | ⟨O', k, rfl⟩
      · have cT := those_any m w1.heap.size D true wr hm4 HS.out.row
        rw [HR.out.done, ← HZ.out] at cT
        have HBR := Lib.hid (HB1.out.trans (HS.out.base.mono HB1.out.size))
        clear hcells
        go_wp2_with fail
        (with_reducible refine cT.mono ?_)
        rintro e w3 ⟨A3, c3, rfl, h1, h2, -, -, hb3⟩
        have HE : Hid (OneEnd w Z (.returned (.slice A3 Z.length c3)) w3) := Lib.hid ⟨A3, c3, rfl, h1, by omega, h2, HBR.out.trans (hb3.mono HBR.out.size)⟩
        clear cT h1 h2 hb3
        go_wp2_with fail
        go_ret
        exact HE.out
      · rw [List.concat_eq_append] at *
        have hl1 : (iz (O' ++ [k])).length = O'.length + 1 := by rw [iz_len, List.length_append, List.length_singleton]
        have HK := Lib.hid (HR.out.opn k (List.mem_append_right _ (List.mem_singleton.2 rfl)))
        have hk := HK.out.1
        have hkz : (k : Int) < (m : Int) := by omega
        obtain ⟨bo, oo, rfl, hco⟩ := is_at hcells (k := O'.length) (by omega)
        rw [show (iz (O' ++ [k]))[O'.length]'(by omega) = (k : Int) by unfold iz; simp] at hco
        have HSP := Lib.hid (show RS w1 m w.heap.size D (O' ++ [k]) (.slice (some ⟨bo, oo, none⟩) (O'.length + 1) c') wr by have := HS.out; rw [hl1] at this; exact this)
        rw [hl1] at h9 hlc'
        have hle : O'.length ≤ m := by have := HR.out.num; rw [List.length_append, List.length_singleton] at this; omega
        have hgt : decide ((O'.length : Int) + 1 > 0) = true := decide_eq_true (by omega)
        have hrow := row_later HROW.out HS.out.base
        have hcv := hrow.cell hk
        obtain ⟨Bk, ck, hv, -, hkl, hki, -, -⟩ := HV.out k hk
        rw [hv] at hcv
        have hcb : w1.heap.size + 1 + 1 < wr.heap.size := by have := HS.out.size; omega
        have HPOP := Lib.hid HSP.out.pop
        have hcv2 : (wr.setCell ⟨w1.heap.size + 1 + 1, 0, none⟩ (.slice (some ⟨bo, oo, none⟩) O'.length c')).cell? ⟨g, k, none⟩ = some (.slice Bk (iz (N k)).length ck) := (World.cell?_of_block (w := wr) (a := ⟨g, k, none⟩) (Below.heap_setCell _ _ _ _ (by have := HROW.out.lt; dsimp only; omega))).trans hcv
        have cc := clos_any w1 m w.heap.size Bk (iz (N k)) ck D O' _ _ hm4 hkl hki HPOP.out (by have := HR.out.num; rw [List.length_append, List.length_singleton] at this; omega)
        clear hcells hl1 hrow hv hkl hki hcv HS
        go_wp2_with fail
        (with_reducible refine cc.mono ?_)
        rintro e w4 ⟨rfl, D2, O2, v2, hrs2, hg⟩
        have HS2 := Lib.hid hrs2
        have HR2 := Lib.hid (HR.out.step (HN.out k hk) hg)
        have HNU := Lib.hid hg.num
        clear cc hrs2 hg
        go_wp2_with fail
        go_roundg (O2.length + cnt m D2)
        case measure =>
          have h1 := HQ.out
          have h2 := HNU.out
          rw [List.length_append, List.length_singleton] at h1
          omega
        case rel => exact ⟨D2, O2, v2, Nat.le_refl _, HS2, HR2⟩
end Go.Proofs.Ytbacphifmbjooaa
