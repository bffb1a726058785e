/- Contract of frame.look: what there is at a place. -/
import Derived.Test.YtpkbjiakjofcnaaFRoom
namespace Go.Proofs.Ytpkbjiakjofcnaa
open Go.RowKit

/-- What look answers: a body's slice, the place behind, why there is none. -/
abbrev foundV (A : Option Addr) (n cap : Nat) (behind err : Int) : Value := .agg #[.slice A n cap, .int .i64 behind, .int .i64 err]
abbrev foundO (A : Option Addr) (n cap : Nat) (behind err : Int) : Obj := .cells #[.slice A n cap, .int .i64 behind, .int .i64 err] 56
theorem fo_cells {w : World} {g : Nat} {a b c : Value} {t : TypeId} (h : w.heap[g]? = some (.cells #[a, b, c] t)) :
    w.cell? ⟨g, 0, none⟩ = some a ∧ w.cell? ⟨g, 1, none⟩ = some b ∧ w.cell? ⟨g, 2, none⟩ = some c ∧ w.frozen? ⟨g, 0, none⟩ = false ∧ w.frozen? ⟨g, 1, none⟩ = false ∧ w.frozen? ⟨g, 2, none⟩ = false := by
  refine ⟨?_, ?_, ?_, ?_, ?_, ?_⟩
  · rw [cell_of_row w g 0 _ _ _ h]; rfl
  · rw [cell_of_row w g 1 _ _ _ h]; rfl
  · rw [cell_of_row w g 2 _ _ _ h]; rfl
  · simp [World.frozen?, h]
  · simp [World.frozen?, h]
  · simp [World.frozen?, h]
def Ret (w : World) (v : Value) (e : Ending) (w' : World) : Prop := e = .returned v ∧ Below w.heap.size w w'

theorem min_two (a n : Nat) (h : min a 4 = n) (ts : Array TypeId) (t : TypeId) (u : World) : (Builtin.min_ ts t #[.int .i64 (a : Int), .int .i64 4]).run Try.prog u = .ok (.int .i64 (n : Int)) u := by
  rw [run_min_int2]
  have e : (if (4 : Int) < (a : Int) then (4 : Int) else (a : Int)) = (n : Int) := by
    split <;> omega
  rw [e]
set_option maxHeartbeats 400000 in
theorem look_arg (A : Option Addr) (n ca : Nat) (v : Int) (w : World) (hn : n ≤ 9223372036854775807) (hv : v < 0 ∨ (n : Int) < v) :
    Calls Try.prog 27 #[.slice A n ca, .int .i64 v] w (Ret w (foundV none 0 0 0 1)) := by
  rcases hv with hv | hv
  · go_enter Try.func27, Try.ntmps27
    go_wp2
    exact bodyPost_ret (v := foundV none 0 0 0 1) (by simp [results, Try.results27, go_sem]) rfl ⟨rfl, (Below.refl _ w).alloc (Nat.le_refl _) _⟩
  · have hv0 : ¬ v < 0 := by omega
    go_enter Try.func27, Try.ntmps27
    go_wp2
    exact bodyPost_ret (v := foundV none 0 0 0 1) (by simp [results, Try.results27, go_sem]) rfl ⟨rfl, (Below.refl _ w).alloc (Nat.le_refl _) _⟩
set_option maxHeartbeats 400000 in
theorem look_end (A : Option Addr) (n ca : Nat) (w : World) :
    Calls Try.prog 27 #[.slice A n ca, .int .i64 (n : Int)] w (Ret w (foundV none 0 0 0 3)) := by
  go_enter Try.func27, Try.ntmps27
  go_wp2
  exact bodyPost_ret (v := foundV none 0 0 0 3) (by simp [results, Try.results27, go_sem]) rfl ⟨rfl, (Below.refl _ w).alloc (Nat.le_refl _) _⟩

theorem bs_at {w : World} {b off : Nat} {L : List UInt8} (h : Bs w (some ⟨b, off, none⟩) L) (k : Nat) : Bs w (some ⟨b, off + k, none⟩) (L.drop k) := fun h0 => by
  rw [List.length_drop] at h0
  obtain ⟨b', off', e, hc⟩ := h (by omega)
  injection e with e
  injection e with e1 e2
  subst e1
  subst e2
  refine ⟨b, off + k, rfl, fun j hj => ?_⟩
  rw [List.length_drop] at hj
  rw [Nat.add_assoc, hc (k + j) (by omega), List.getD_eq_getElem?_getD, List.getD_eq_getElem?_getD, List.getElem?_drop]

/-- What look has when it has read the length. -/
structure LookMid (w : World) (ob off at_ : Nat) (R : List UInt8) (w5 : World) : Prop where
  bytes : Bs w5 (some ⟨ob, off + at_, none⟩) R
  blk : w5.heap[w.heap.size]? = some (foundO none 0 0 0 0)
  low : Below w.heap.size w w5
theorem LookMid.next {w w5 w6 : World} {ob off at_ : Nat} {R : List UInt8} (h : LookMid w ob off at_ R w5) (hb : Below w5.heap.size w5 w6) : LookMid w ob off at_ R w6 := by
  have hl : w.heap.size < w5.heap.size := (Array.getElem?_eq_some_iff.1 h.blk).1
  exact ⟨h.bytes.below hb, (hb.block _ hl).trans h.blk, h.low.trans (hb.mono h.low.size)⟩
theorem LookMid.only {w w5 w6 : World} {ob off at_ g : Nat} {R : List UInt8} {N : Nat} {s : St} (h : LookMid w ob off at_ R w5) (hg : w.heap.size < g) (hr : Rd N w5 g s) (ho : Only g w5 w6) : LookMid w ob off at_ R w6 :=
  ⟨h.bytes.only hr ho, (ho.block _ (by omega)).trans h.blk, h.low.trans (ho.below (by omega))⟩

theorem st_u {W T : List UInt8} {bd : Bool} {v : Int} (h : stI (W, false) = (v, (T, bd))) (hv : 1 ≤ v) : ∃ u, rdU 0 0 W = some (u, T) ∧ zz u = v := by
  cases e : rdU 0 0 W with
  | none =>
    rw [stI_none (s := (W, false)) e] at h
    injection h with h1
    omega
  | some p =>
    obtain ⟨u, T'⟩ := p
    rw [stI_some (s := (W, false)) e] at h
    injection h with h1 h2
    injection h2 with h2
    subst h2
    exact ⟨u, rfl, h1⟩
theorem look_small {R T : List UInt8} {bd : Bool} {v : Int} {n m k : Nat} (h : stI (R.take 4, false) = (v, (T, bd))) (hn : R.length = n) (hm : (R.take 4).length = m) (hk : T.length = k)
    (hs : ¬ (1 ≤ v ∧ v ≤ 1048576 ∧ v ≤ (n : Int) - ((m : Int) - k + 4))) : fr R = none := by
  cases e : rdU 0 0 (R.take 4) with
  | none => exact win_none e
  | some p =>
    obtain ⟨u, T'⟩ := p
    rw [stI_some (s := (R.take 4, false)) e] at h
    injection h with h1 h2
    injection h2 with h2
    subst h2
    refine fr_small e ?_
    rw [h1, hn, hm, hk]
    exact hs

set_option maxHeartbeats 4000000 in
theorem look_at (ob off at_ : Nat) (L : List UInt8) (ca : Nat) (w : World) (hl : L.length ≤ 140737488351232) (hlc : L.length ≤ ca) (hat : at_ < L.length) (hB : Bs w (some ⟨ob, off, none⟩) L) :
    Calls Try.prog 27 #[.slice (some ⟨ob, off, none⟩) L.length ca, .int .i64 (at_ : Int)] w (fun e w' => Below w.heap.size w w' ∧ ((fr (L.drop at_) = none ∧ e = .returned (foundV none 0 0 0 4)) ∨
      ∃ b, fr (L.drop at_) = some b ∧ e = .returned (foundV (some ⟨ob, off + (at_ + (headF b).length), none⟩) b.length (ca - (at_ + (headF b).length)) ((at_ + (putF b).length : Nat) : Int) 0))) := by
  obtain ⟨R, hR⟩ : ∃ R, R = L.drop at_ := ⟨_, rfl⟩
  have hRl : R.length = L.length - at_ := by rw [hR, List.length_drop]
  have hB1 := bs_at hB at_
  rw [← hR] at hB1
  rw [← hR]
  generalize hLL : L.length = LL at *
  obtain ⟨n, hn⟩ : ∃ n, R.length = n := ⟨_, rfl⟩
  have hRn : LL - at_ = n := by omega
  obtain ⟨m, hm⟩ : ∃ m, min n 4 = m := ⟨_, rfl⟩
  have hmin := min_two n m hm
  have hWl : (R.take 4).length = m := by rw [List.length_take]; omega
  have hm4 : m ≤ 4 := by omega
  have hmR : m ≤ n := by omega
  have hn0 : 1 ≤ n := by omega
  have hnL : n ≤ LL := by omega
  have hnat : ¬ (at_ : Int) < 0 := by omega
  have hcat : ¬ ca = at_ := by omega
  have hne : ((at_ : Int) == (LL : Int)) = false := by simp; omega
  have hnc : n ≤ ca - at_ := by omega
  have cn := new_any (some ⟨ob, off + at_, none⟩) (R.take 4) (ca - at_) (w.alloc (foundO none 0 0 0 0)) (by omega) ((bs_take hB1 4).below ((Below.refl _ w).alloc (Nat.le_refl _) _)) (fun h => by cases h)
  rw [hWl] at cn
  have HM : Hid (LookMid w ob off at_ R (w.alloc (foundO none 0 0 0 0))) := ⟨hB1.below ((Below.refl _ w).alloc (Nat.le_refl _) _), heap_alloc_new w _, (Below.refl _ w).alloc (Nat.le_refl _) _⟩
  have HWL := Lib.hid hWl
  have HN := Lib.hid hn
  clear hB hR hLL hm hWl hRl hB1 hn
  go_enter Try.func27, Try.ntmps27
  go_wp2_with fail
  refine cn.mono ?_
  rintro e w1 ⟨g, rfl, hR1, hb1⟩
  have HM1 := Lib.hid (HM.out.next hb1)
  have hg : w.heap.size < g := by have := hR1.1; simp at this; omega
  clear cn hmin hb1 HM
  obtain ⟨v, T, bd, hst⟩ : ∃ v T bd, stI (R.take 4, false) = (v, (T, bd)) := ⟨_, _, _, rfl⟩
  have ci := int_at _ g _ (T, bd) v w1 hR1 (Lib.hid hst)
  have hv := stI_lo (R.take 4, false)
  rw [hst] at hv
  obtain ⟨hv0, hv1⟩ := hv
  have hTl := stI_left (R.take 4, false)
  rw [hst, HWL.out] at hTl
  simp only at hTl hv0 hv1
  have HST := Lib.hid hst
  have HR1 := Lib.hid hR1
  clear hst hR1
  go_wp2_with fail
  refine ci.mono ?_
  rintro e w2 ⟨rfl, hR2, hO2⟩
  have cl := left_any _ g _ w2 hR2
  have HM2 := Lib.hid (HM1.out.only hg HR1.out hO2)
  clear ci hR2 hO2 HM1
  simp only at cl
  obtain ⟨k, hk⟩ : ∃ k, T.length = k := ⟨_, rfl⟩
  rw [hk] at cl hTl
  have HK := Lib.hid hk
  clear hk
  go_wp2_with fail
  refine cl.mono ?_
  rintro e w' ⟨rfl, rfl⟩
  have cf := fits_any v w2
  obtain ⟨st, hst⟩ : ∃ st, m - k + 4 = st := ⟨_, rfl⟩
  have hsti : (m : Int) - (k : Int) + 4 = (st : Int) := by omega
  have hstl : st ≤ 8 := by omega
  have HSN := Lib.hid hst
  clear cl hst
  go_wp2_with fail
  clear hsti
  obtain ⟨c0, c1, c2, f0, f1, f2⟩ := fo_cells HM2.out.blk
  have hsmall := fun hs => look_small HST.out HN.out HWL.out HK.out hs
  by_cases hfit : 1 ≤ v ∧ v ≤ 1048576
  · rw [fitB_yes hfit.1 hfit.2] at cf
    obtain ⟨vn, rfl⟩ : ∃ vn : Nat, v = (vn : Int) := ⟨v.toNat, by omega⟩
    obtain ⟨h1, h2⟩ := hfit
    by_cases hroom : vn + st ≤ n
    · obtain ⟨u, hu, hzu⟩ := st_u HST.out h1
      obtain ⟨hbl, hsl, hfr⟩ := fr_body hu hzu (st := st) (by rw [HWL.out, HK.out, HSN.out]) (by omega) (by omega) (by rw [HN.out]; omega)
      have hBB := bs_take (bs_at HM2.out.bytes st) vn
      obtain ⟨B, hBd⟩ : ∃ B, (R.drop st).take vn = B := ⟨_, rfl⟩
      rw [hBd] at hbl hsl hfr hBB
      have ch := head_any (some ⟨ob, off + at_ + st, none⟩) B (ca - at_ - st) w2 (by omega) hBB
      rw [hbl] at ch
      have hsc : ¬ ca - at_ = st := by omega
      have hgt : decide ((n : Int) - (st : Int) < (vn : Int)) = false := by simp; omega
      have hle1 : vn + st ≤ ca - at_ := by omega
      have HBL := Lib.hid hbl
      have HSL := Lib.hid hsl
      have HFR := Lib.hid hfr
      clear hbl hsl hfr hBB hBd hu hzu hsmall c0 c1 c2 f0 f1 f2
      refine cf.mono ?_
      rintro e w' ⟨rfl, rfl⟩
      clear cf
      go_wp2_with fail
      refine ch.mono ?_
      rintro e w3 ⟨A3, cap3, rfl, hB3, _, _, hb3⟩
      have HM3 := Lib.hid (HM2.out.next hb3)
      have cp := prefix_any (some ⟨ob, off + at_, none⟩) A3 R (headF B) (ca - at_) cap3 w3 (by rw [HN.out]; omega) (by rw [← HSL.out]; omega) HM3.out.bytes hB3
      rw [HN.out] at cp
      clear ch hB3 hb3 HM2
      generalize hgl : (headF B).length = hl1 at cp ⊢
      clear hgl
      go_wp2_with fail
      by_cases hp : headF B <+: R
      · rw [show preB (headF B) R = true by unfold preB; simp [hp]] at cp
        have HP := Lib.hid hp
        clear hp
        refine cp.mono ?_
        rintro e w' ⟨rfl, rfl⟩
        clear cp
        obtain ⟨c0, c1, c2, f0, f1, f2⟩ := fo_cells HM3.out.blk
        go_wp2_with fail
        refine bodyPost_ret (v := foundV (some ⟨ob, off + at_ + st, none⟩) vn (ca - at_ - st) ((at_ : Int) + st + vn) 0) (by simp [results, Try.results27, go_sem, *]) rfl ⟨((HM3.out.low.setCell (by simp) _).setCell (by simp) _).setCell (by simp) _, .inr ⟨B, by rw [HFR.out, if_pos HP.out], ?_⟩⟩
        have e1 : (putF B).length = st + vn := by unfold putF; rw [List.length_append, HBL.out]; have := HSL.out; omega
        rw [HBL.out, e1, ← HSL.out]
        rw [show off + (at_ + st) = off + at_ + st by omega, show ca - (at_ + st) = ca - at_ - st by omega, show ((at_ + (st + vn) : Nat) : Int) = (at_ : Int) + st + vn by omega]
      · rw [show preB (headF B) R = false by unfold preB; simp [hp]] at cp
        have HP := Lib.hid hp
        clear hp
        refine cp.mono ?_
        rintro e w' ⟨rfl, rfl⟩
        clear cp
        obtain ⟨c0, c1, c2, f0, f1, f2⟩ := fo_cells HM3.out.blk
        go_wp2_with fail
        exact bodyPost_ret (v := foundV none 0 0 0 4) (by simp [results, Try.results27, go_sem, *]) rfl ⟨((HM3.out.low.setCell (by simp) _).setCell (by simp) _).setCell (by simp) _, .inl ⟨by rw [HFR.out, if_neg HP.out], rfl⟩⟩
    · have hlt : (n : Int) - (st : Int) < (vn : Int) := by omega
      refine cf.mono ?_
      rintro e w' ⟨rfl, rfl⟩
      clear cf
      have HS := Lib.hid (hsmall (fun h => by have := HSN.out; omega))
      clear hsmall
      go_wp2_with fail
      exact bodyPost_ret (v := foundV none 0 0 0 4) (by simp [results, Try.results27, go_sem, *]) rfl ⟨((HM2.out.low.setCell (by simp) _).setCell (by simp) _).setCell (by simp) _, .inl ⟨HS.out, rfl⟩⟩
  · rw [fitB_no hfit] at cf
    refine cf.mono ?_
    rintro e w' ⟨rfl, rfl⟩
    clear cf
    have HS := Lib.hid (hsmall (fun h => hfit ⟨h.1, h.2.1⟩))
    clear hsmall
    go_wp2_with fail
    exact bodyPost_ret (v := foundV none 0 0 0 4) (by simp [results, Try.results27, go_sem, *]) rfl ⟨((HM2.out.low.setCell (by simp) _).setCell (by simp) _).setCell (by simp) _, .inl ⟨HS.out, rfl⟩⟩
end Go.Proofs.Ytpkbjiakjofcnaa
