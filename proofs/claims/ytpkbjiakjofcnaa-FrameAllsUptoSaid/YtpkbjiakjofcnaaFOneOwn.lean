/- Contract of the document's own one, once more: the body lies in a row of the call's own. -/
import Derived.Test.YtpkbjiakjofcnaaFLaid
import Derived.Test.YtpkbjiakjofcnaaFOne
namespace Go.Proofs.Ytpkbjiakjofcnaa
open Go.RowKit

theorem own_only {w w' : World} {B g n size : Nat} {e t : TypeId} {v : Value} {xs : List Value} {C : Array Value} {z : Nat × Nat} (h : w.ownsRow B e size v n xs) (ht : w.heap[g]? = some (.cells C t z)) (hne : t ≠ e) (ho : Only g w w') : w'.ownsRow B e size v n xs := by
  refine ⟨h.1, ?_⟩
  rcases h.2 with h2 | ⟨g2, cap, cur, rfl, hb, hgb, h3⟩
  · exact .inl h2
  · refine .inr ⟨g2, cap, cur, rfl, hb, (ho.block g2 ?_).trans hgb, h3⟩
    rintro rfl
    rw [hgb] at ht
    injection ht with h
    injection h with _ h
    exact hne h.symm
/-- What one answers. -/
def OneOwn (w : World) (L : List UInt8) (at_ : Nat) (e : Ending) (w' : World) : Prop := Below w.heap.size w w' ∧
  ((fr (L.drop at_) = none ∧ e = .returned (.tuple #[.agg #[.int .i64 0, .slice none 0 0, .int .i64 0], .bool false])) ∨
   ∃ b v, fr (L.drop at_) = some b ∧ e = .returned (.tuple #[.agg #[.int .i64 (at_ : Int), v, .int .i64 ((at_ + (putF b).length : Nat) : Int)], .bool true]) ∧ w'.ownsRow w.heap.size 5 1 v b.length (Lib.byteCells b))

set_option maxRecDepth 100000 in
set_option maxHeartbeats 4000000 in
theorem one_own (A : Option Addr) (L : List UInt8) (ca at_ : Nat) (w : World) (hl : L.length ≤ 140737488351232) (hlc : L.length ≤ ca) (hat : at_ < L.length) (hB : Bs w A L) :
    Calls Try.prog 28 #[.slice A L.length ca, .int .i64 (at_ : Int)] w (OneOwn w L at_) := by
  obtain ⟨ob, off, rfl⟩ := bs_some hB (by omega)
  obtain ⟨v, T, bd, hst⟩ : ∃ v T bd, stI (L.drop at_, false) = (v, (T, bd)) := ⟨_, _, _, rfl⟩
  have hv := stI_lo (L.drop at_, false)
  rw [hst] at hv
  obtain ⟨hv0, hv1⟩ := hv
  simp only at hv0 hv1
  have hb2 : Below w.heap.size w ((w.alloc (.cells #[.int .i64 0, .slice none 0 0, .int .i64 0] 43)).alloc (.cells #[.slice (some ⟨ob, off, none⟩) L.length ca, .int .i64 (at_ : Int), .bool false] 74)) := ((Below.refl _ w).alloc (Nat.le_refl _) _).alloc (by simp) _
  have hRB : RB ((w.alloc (.cells #[.int .i64 0, .slice none 0 0, .int .i64 0] 43)).alloc (.cells #[.slice (some ⟨ob, off, none⟩) L.length ca, .int .i64 (at_ : Int), .bool false] 74)) (w.heap.size + 1) (some ⟨ob, off, none⟩) L ca at_ false := by
    refine ⟨?_, hB.below hb2, hlc, by omega, by omega⟩
    have := heap_alloc_new (w.alloc (.cells #[.int .i64 0, .slice none 0 0, .int .i64 0] 43)) (.cells #[.slice (some ⟨ob, off, none⟩) L.length ca, .int .i64 (at_ : Int), .bool false] 74)
    rwa [World.size_alloc] at this
  have hF2 : ((w.alloc (.cells #[.int .i64 0, .slice none 0 0, .int .i64 0] 43)).alloc (.cells #[.slice (some ⟨ob, off, none⟩) L.length ca, .int .i64 (at_ : Int), .bool false] 74)).heap[w.heap.size]? = some (.cells #[.int .i64 0, .slice none 0 0, .int .i64 0] 43) :=
    (Below.heap_alloc _ _ _ (by simp)).trans (heap_alloc_new w _)
  have ci := refrint_at (w.heap.size + 1) (L.drop at_) (T, bd) v _ (some ⟨ob, off, none⟩) L ca at_ hRB rfl (Lib.hid hst)
  have HST := Lib.hid hst
  have HB2 := Lib.hid hb2
  have HF2 := Lib.hid hF2
  have HBU := Lib.hid (BsU.of hB (Nat.le_refl _))
  clear hst hb2 hF2 hRB hB
  go_enter Try.func28, Try.ntmps28
  go_wp2_with fail
  (with_reducible refine ci.mono ?_)
  rintro e w3 ⟨rfl, ⟨at2, hR, hT⟩, hO⟩
  have hF3 := (hO.block w.heap.size (by omega)).trans HF2.out
  have HB3 := Lib.hid (HB2.out.trans (hO.below (by omega)))
  obtain ⟨c0, c1, c2, _, _⟩ := hR.cells
  obtain ⟨f0, f1, f2, f3, f4, f5⟩ := fo_cells hF3
  have hat2 := hR.2.2.2.2
  have HF3 := Lib.hid hF3
  have HT := Lib.hid hT
  clear ci hR hT hO hF3
  simp only at c2 hat2
  rcases st_v HST.out with ⟨rfl, rfl, rfl, hrd⟩ | ⟨rfl, u, hrd, hzu⟩
  · have HN := Lib.hid (one_none hrd)
    clear hrd
    go_wp2_with fail
    exact bodyPost_ret (v := .tuple #[.agg #[.int .i64 0, .slice none 0 0, .int .i64 0], .bool false]) (by simp [results, Try.results28, go_sem, *]) rfl ⟨((HB3.out.setCell (by simp) _).setCell (by simp) _).setCell (by simp) _, .inl ⟨HN.out, rfl⟩⟩
  · have hTl : T.length = L.length - at2 := by rw [show T = L.drop at2 from HT.out, List.length_drop]
    have hRl : (L.drop at_).length = L.length - at_ := List.length_drop
    have hle := stI_left (L.drop at_, false)
    rw [HST.out, hRl] at hle
    simp only [hTl] at hle
    have hsmall := fun hn => one_small hrd hn
    rw [hzu, hTl] at hsmall
    by_cases hv1' : 1 ≤ v
    · by_cases hv2 : v ≤ 1048576
      · obtain ⟨vn, rfl⟩ : ∃ vn : Nat, v = (vn : Int) := ⟨v.toNat, by omega⟩
        by_cases hv3 : vn + 4 + at2 ≤ L.length
        · obtain ⟨kk, hkk⟩ : ∃ kk, kk = at2 + 4 := ⟨_, rfl⟩
          obtain ⟨st, hst⟩ : ∃ st, st = kk - at_ := ⟨_, rfl⟩
          have hsum : at_ + st = kk := by omega
          obtain ⟨hbl, hhl, hfr, hiff⟩ := one_body (st := st) hrd hzu (by rw [hTl, hRl]; omega) (by omega) (by omega) (by rw [hTl]; omega)
          have hbs3 := (HBU.out.below HB3.out).bs
          have hBB := bs_take (bs_at hbs3 kk) vn
          have hBW := bs_take (bs_at hbs3 at_) (st + vn)
          rw [← hsum, ← List.drop_drop] at hBB
          rw [hsum] at hBB
          have hWl : ((L.drop at_).take (st + vn)).length = st + vn := by rw [List.length_take, hRl]; omega
          obtain ⟨B, hBd⟩ : ∃ B, ((L.drop at_).drop st).take vn = B := ⟨_, rfl⟩
          obtain ⟨W, hWd⟩ : ∃ W, (L.drop at_).take (st + vn) = W := ⟨_, rfl⟩
          rw [hBd] at hbl hhl hfr hiff hBB
          rw [hWd] at hBW hWl hiff
          have hpl : (putF B).length = st + vn := by unfold putF; rw [List.length_append, hbl]; omega
          have hkk4 : (at2 : Int) + 4 = (kk : Int) := by omega
          have hge : decide ((L.length : Int) - (at2 : Int) - 4 < (vn : Int)) = false := by simp; omega
          have hkc : ¬ ca = kk := by omega
          have hac : ¬ ca = at_ := by omega
          have hkv : kk + vn ≤ ca := by omega
          have hsub : kk + vn - at_ = st + vn := by omega
          have hak : at_ ≤ kk + vn := by omega
          have HBL := Lib.hid hbl
          have HFR := Lib.hid hfr
          have HIF := Lib.hid hiff
          have HBB := Lib.hid hBB
          have HBW := Lib.hid hBW
          have HWL := Lib.hid hWl
          have HPL := Lib.hid hpl
          have HSUM := Lib.hid hsum
          have HLL := Lib.hid hRl
          clear hTl hRl hsmall hrd hzu hbl hhl hfr hiff hBB hBW hWl hpl hBd hWd hkk hst hsum hbs3 hle
          go_wp2_with (at_builtin; (refine wpList_append_onto rfl (.const (.slice none 0 0)) (.tmp 52) rfl w3.heap.size _ [] B rfl (Onto.nil _ _) ⟨ob, off + kk, none⟩ (ca - kk) (by rw [HBL.out]; simp [Act.eval]) HBB.out (by rw [HBL.out]; omega) (by rw [HBL.out]; simp; omega) (Nat.le_refl _) ?_); intro b4 w4 ho4 hb4; rw [List.nil_append] at ho4; obtain ⟨A4, cap4, rfl, hB4⟩ := bs_own ho4; have HO4 := Lib.hid ho4; clear ho4)
          obtain ⟨b4, o4, rfl⟩ := bs_some hB4 (by rw [HBL.out]; omega)
          have cw := refput_any (some ⟨b4, o4, none⟩) B cap4 w4 (by rw [HBL.out]; omega) (by rw [HBL.out]; omega) hB4
          have HB4 := Lib.hid (HB3.out.trans (hb4.mono HB3.out.size))
          have hs3 := HB3.out.size
          have HF4 := Lib.hid ((hb4.block w.heap.size (Array.getElem?_eq_some_iff.1 HF3.out).1).trans HF3.out)
          have HW4 := Lib.hid (HBW.out.below hb4)
          clear hB4 hb4 HB3 HBW HBB HF3 f0 f1 f2 f3 f4 f5 c0 c1 c2
          (with_reducible refine cw.mono ?_)
          rintro e w5 ⟨A5, cap5, rfl, hB5, _, _, hb5⟩
          have HB5 := Lib.hid (HB4.out.trans (hb5.mono HB4.out.size))
          have HO5 := Lib.hid (own_low (own_next HO4.out hb5) hs3)
          have HF5 := Lib.hid ((hb5.block w.heap.size (Array.getElem?_eq_some_iff.1 HF4.out).1).trans HF4.out)
          obtain ⟨f0, f1, f2, f3, f4, f5⟩ := fo_cells HF5.out
          have hW5 := HW4.out.below hb5
          have k1 := fun q => run_str_of (P := Try.prog) (w := w5.drewN q) 22 9 5 cap5 Try.underlying22 Try.underlying5 Try.underlying9 hB5
          have k2 := fun q => run_str_of (P := Try.prog) (w := w5.drewN q) 22 9 5 (ca - at_) Try.underlying22 Try.underlying5 Try.underlying9 hW5
          rw [HPL.out] at k1 ⊢
          rw [HWL.out] at k2
          clear cw hB5 hW5 hb5 HB4 HO4 HF4 HW4
          by_cases hp : headF B <+: L.drop at_
          · have hW := HIF.out.1 hp
            have HX := Lib.hid (show fr (L.drop at_) = some B by rw [HFR.out, if_pos hp])
            rw [hW] at k2
            clear hp hW HIF HFR HWL
            generalize (⟨(putF B).toArray⟩ : ByteArray) = txt at *
            go_wp2_with fail
            go_quiet (fail)
            go_wp2_with fail
            refine bodyPost_ret (v := .tuple #[.agg #[.int .i64 (at_ : Int), .slice (some ⟨b4, o4, none⟩) B.length cap4, .int .i64 ((kk : Int) + vn)], .bool true]) (by simp [results, Try.results28, go_sem, *]) rfl ⟨(((below_dn HB5.out _).setCell (by simp) _).setCell (by simp) _).setCell (by simp) _, .inr ⟨B, .slice (some ⟨b4, o4, none⟩) B.length cap4, HX.out, ?_, own_only (w := w5) HO5.out HF5.out (by decide) ((((Only.refl _ w5).like (w2 := w5.drewN _) rfl rfl rfl rfl).setCell 0 _).setCell 1 _ |>.setCell 2 _)⟩⟩
            rw [HPL.out, show ((at_ + (st + vn) : Nat) : Int) = (kk : Int) + vn by have := HSUM.out; omega]
          · have hW : W ≠ putF B := fun e => hp (HIF.out.2 e)
            have htx := txt_no hW.symm
            have HX := Lib.hid (show fr (L.drop at_) = none by rw [HFR.out, if_neg hp])
            clear hp hW HIF HFR HWL
            generalize (⟨(putF B).toArray⟩ : ByteArray) = txt1 at *
            generalize (⟨W.toArray⟩ : ByteArray) = txt2 at *
            go_wp2_with fail
            go_quiet (fail)
            go_wp2_with fail
            exact bodyPost_ret (v := .tuple #[.agg #[.int .i64 0, .slice none 0 0, .int .i64 0], .bool false]) (by simp [results, Try.results28, go_sem, *]) rfl ⟨(((below_dn HB5.out _).setCell (by simp) _).setCell (by simp) _).setCell (by simp) _, .inl ⟨HX.out, rfl⟩⟩
        · have HN := Lib.hid (hsmall (fun h => by omega))
          have hge : decide ((L.length : Int) - (at2 : Int) - 4 < (vn : Int)) = true := by simp; omega
          clear hsmall hrd hzu
          go_wp2_with fail
          exact bodyPost_ret (v := .tuple #[.agg #[.int .i64 0, .slice none 0 0, .int .i64 0], .bool false]) (by simp [results, Try.results28, go_sem, *]) rfl ⟨((HB3.out.setCell (by simp) _).setCell (by simp) _).setCell (by simp) _, .inl ⟨HN.out, rfl⟩⟩
      · have HN := Lib.hid (hsmall (fun h => hv2 h.2.1))
        have hgt : decide (1048576 < v) = true := by simp; omega
        clear hsmall hrd hzu
        go_wp2_with fail
        exact bodyPost_ret (v := .tuple #[.agg #[.int .i64 0, .slice none 0 0, .int .i64 0], .bool false]) (by simp [results, Try.results28, go_sem, *]) rfl ⟨((HB3.out.setCell (by simp) _).setCell (by simp) _).setCell (by simp) _, .inl ⟨HN.out, rfl⟩⟩
    · have HN := Lib.hid (hsmall (fun h => hv1' h.1))
      have hlt : decide (v < 1) = true := by simp; omega
      clear hsmall hrd hzu
      go_wp2_with fail
      exact bodyPost_ret (v := .tuple #[.agg #[.int .i64 0, .slice none 0 0, .int .i64 0], .bool false]) (by simp [results, Try.results28, go_sem, *]) rfl ⟨((HB3.out.setCell (by simp) _).setCell (by simp) _).setCell (by simp) _, .inl ⟨HN.out, rfl⟩⟩
end Go.Proofs.Ytpkbjiakjofcnaa
