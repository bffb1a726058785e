/- The statement SessionPlays: any calls at the table and at the document's: each answers alike, and both tell alike. Conditions: none but what the card ties (the library's variables hold what their texts lay). -/
import Derived.Test.YtindkpfmflcibaaGreatDoorSA
import Derived.Test.YtindkpfmflcibaaGreatDoorTD
import Derived.Deep.CutRange
import Derived.Deep.RegionWith
namespace Go.Proofs.YtindkpfmflcibaaGreatDoor
open Go.RowKit Go.Maps Go.Sort Go.Shelf
set_option linter.unusedSimpArgs false

set_option maxHeartbeats 16000000 in
set_option maxRecDepth 100000 in
theorem sessionplays_walk (x : Int) (A : Option Addr) (Z : List Oq) (c : Nat) (w : World) (_hx0 : -9223372036854775808 ≤ x) (_hx1 : x ≤ 9223372036854775807)
    (hzl : Z.length ≤ 17592186044416) (hZ : OpsAt w w.heap.size A Z) (hZI : ∀ o ∈ Z, o.In w) (hT : Tabs w) :
    Calls Tryz.prog 3 #[.int .i64 x, .slice A Z.length c] w fun e w' => e = .returned (.bool true) ∧ Below w.heap.size w w' := by
  have HZ := Lib.hid hZ
  have HZI := Lib.hid hZI
  have HT := Lib.hid hT
  have c1 := stnew_any x w
  have c2 := fun W => rtcut_any x W
  obtain ⟨m, hm⟩ : ∃ m, cutM x = m := ⟨_, rfl⟩
  rw [hm] at c1
  simp only [hm] at c2
  obtain ⟨N, hN⟩ : ∃ N, N = min Z.length 60 := ⟨_, rfl⟩
  have HN := Lib.hid hN
  obtain ⟨nz, hnz⟩ : ∃ nz, Z.length = nz := ⟨_, rfl⟩
  have HNZ := Lib.hid hnz
  rw [hnz] at hzl ⊢
  clear hZ hZI hT hm hN hnz
  go_enter Tryz.func3, Tryz.ntmps3
  go_wp2_with fail
  refine c1.mono ?_
  rintro e w1 ⟨T, r, rfl, H1, hTw, hrw, hb1⟩
  have hTl := H1.lt
  have hrl := H1.m.lt
  have b2 := Ss.below_alloc w1 (.cells #[.slice none 0 0, .int .i64 (m : Int)] 29)
  have HTW : Hid (∃ r' v' L', Twin (w1.alloc (.cells #[.slice none 0 0, .int .i64 (m : Int)] 29)) w.heap.size T r' m w1.heap.size v' L') := Lib.hid ⟨r, .slice none 0 0, [], H1.later b2, ⟨Blk.new _ _ _, World.ownsRow_nil _ _ _ _, hb1.size⟩, hTw, hrw, by omega, by omega, fun k hk => by cases hk⟩
  have HB2 := Lib.hid (hb1.trans (b2.mono hb1.size))
  clear b2 H1 hTw hrw hb1 hTl hrl c1
  go_wp2_with fail
  refine (c2 _).mono ?_
  rintro e w2 ⟨rfl, rfl⟩
  clear c2
  go_upto_region 3 with fail
  generalize hw3 : w1.alloc (.cells #[.slice none 0 0, .int .i64 (m : Int)] 29) = w3 at *
  obtain ⟨Tw, hTw⟩ : ∃ Tw, w1.heap.size = Tw := ⟨_, rfl⟩
  rw [hTw] at HTW
  try rw [hTw]
  clear hw3 hTw
  go_wp2_with fail
  go_loopg [7] (N) (fun n s7 wr => ∃ k : Nat, k + n = N ∧ s7 = .int .i64 (k : Int) ∧ Hid (∃ r' v' L', Twin wr w.heap.size T r' m Tw v' L') ∧ Hid (Below w.heap.size w wr))
  case atStart => exact ⟨0, by omega, rfl, HTW, HB2⟩
  case round =>
    obtain ⟨k, hkm, rfl, HK, HW⟩ := hrel
    have HKM := Lib.hid hkm
    clear HTW HB2
    by_cases hk : k < N
    · have hk60 : (k : Int) < 60 := by have := HN.out; omega
      have hkn : (k : Int) < (nz : Int) := by have := HN.out; have := HNZ.out; omega
      have hkZ : k < Z.length := by have := HNZ.out; have := HN.out; omega
      obtain ⟨b, off, rfl, hbB, hZ⟩ := HZ.out (by omega)
      have hO := (hZ k hkZ).same (HW.out.block b hbB)
      have hbl : b < wr.heap.size := by have := HW.out.size; omega
      clear hZ
      have hin := HZI.out _ (List.getElem_mem hkZ)
      generalize Z[k] = o at *
      obtain ⟨kd, id, at_, ⟨re, rn, rK, rm, rs⟩, B, X, bc⟩ := o
      obtain ⟨c0, c1, c2, c3, c4, c5, c6, c7, c8⟩ := hO
      obtain ⟨k0, k1, i0, i1, a0, a1, hr, hs, xl, xm, xb, xn⟩ := hin
      dsimp only at c0 c1 c2 c3 c4 c5 c6 c7 c8 k0 k1 i0 i1 a0 a1 hr hs xl xm xb xn
      have c7' : wr.cell? ⟨b, off + k * 9 + 3 + 2 + 2, none⟩ = _ := c7
      have HXB := Lib.hid xb
      have HXN := Lib.hid xn
      clear hkm hkZ hbB xb xn
      by_cases x3 : (3000 : Int) < (X.length : Int)
      · go_wp2_with fail
        refine (stawake_any _).mono ?_
        rintro e w4 ⟨rfl, hb⟩
        go_wp2_with fail
        go_ret
        exact ⟨rfl, HW.out.trans (hb.mono HW.out.size)⟩
      · by_cases s1 : (1000 : Int) < (rs.size : Int)
        · go_wp2_with fail
          refine (stawake_any _).mono ?_
          rintro e w4 ⟨rfl, hb⟩
          go_wp2_with fail
          go_ret
          exact ⟨rfl, HW.out.trans (hb.mono HW.out.size)⟩
        · obtain ⟨r', v', L', hTW⟩ := HK.out
          have cD := tdo_any w T r' m Tw v' L' kd id at_ re rn rK rm rs B X bc wr hTW HT.out HW.out k0 k1 i0 i1 a0 a1 hr (by omega) HXB.out xl HXN.out (by omega)
          clear hTW k0 k1 i0 i1 a0 a1 hr
          go_wp2_with fail
          refine cD.mono ?_
          rintro e w4 ⟨rfl, ⟨r2, v2, L2, hT2⟩, hb4⟩
          have cS := tsame_any w.heap.size T r2 m Tw v2 L2 w4 hT2
          have HT2 := Lib.hid hT2
          have HB4 := Lib.hid (HW.out.trans hb4)
          clear cD hT2 hb4 c0 c1 c2 c3 c4 c5 c6 c7 c8 c7'
          go_wp2_with fail
          refine cS.mono ?_
          rintro e w5 ⟨rfl, hb5⟩
          have HT5 := Lib.hid (HT2.out.later hb5)
          have HB5 := Lib.hid (HB4.out.trans (hb5.mono HB4.out.size))
          clear cS hb5
          go_wp2_with fail
          go_roundg (N - (k + 1))
          case measure => have := HKM.out; omega
          case rel => exact ⟨k + 1, by have := HKM.out; omega, by go_num, Lib.hid ⟨r2, v2, L2, HT5.out⟩, HB5⟩
    · have hh : k = nz ∨ (k = 60 ∧ (60 : Int) < (nz : Int)) := by have := HN.out; have := HNZ.out; omega
      obtain ⟨r', v', L', hTW⟩ := HK.out
      have cS := tsame_any w.heap.size T r' m Tw v' L' wr hTW
      clear hkm hk HKM hTW
      rcases hh with rfl | ⟨rfl, hk6⟩
      all_goals
        go_wp2_with fail
        refine cS.mono ?_
        rintro e w4 ⟨rfl, hb4⟩
        have HB4 := Lib.hid (HW.out.trans (hb4.mono HW.out.size))
        have ca := stawake_any w4
        clear hb4 cS
        go_wp2_with fail
        refine ca.mono ?_
        rintro e w5 ⟨rfl, hb5⟩
        go_wp2_with fail
        go_ret
        exact ⟨rfl, HB4.out.trans (hb5.mono HB4.out.size)⟩
end Go.Proofs.YtindkpfmflcibaaGreatDoor
