/- The statement FrameTurns: where a byte is turned in a single frame, wherever it is, all of it is no frame any more. Conditions: none. -/
import Derived.Test.YtpkbjiakjofcnaaFLaws
namespace Go.Proofs.Ytpkbjiakjofcnaa
open Go.ChangeShapes Go.WideShapes Go.ChangeAt Go.RowKit

theorem frameturns_skip (A : Option Addr) (n ca : Nat) (v : Int) (c : UInt8) (w : World) (h : n = 0 ∨ (1 ≤ n ∧ 20000 < n) ∨ (1 ≤ n ∧ n ≤ 20000 ∧ c = 0)) :
    Calls Try.prog 7 #[.slice A n ca, .int .i64 v, .int .u8 (c.toNat : Int)] w fun e w' => e = .returned (.bool true) ∧ Below w.heap.size w w' := by
  have haw := awake_any w
  rcases h with rfl | ⟨h1, h2⟩ | ⟨h1, h2, rfl⟩
  · go_enter Try.func7, Try.ntmps7
    go_wp2_with fail
    (with_reducible refine haw.mono ?_)
    rintro e w2 ⟨rfl, hb2⟩
    go_wp2
    go_ret
    exact ⟨rfl, hb2⟩
  · go_enter Try.func7, Try.ntmps7
    go_wp2_with fail
    (with_reducible refine haw.mono ?_)
    rintro e w2 ⟨rfl, hb2⟩
    go_wp2
    go_ret
    exact ⟨rfl, hb2⟩
  · have hz : ((0 : UInt8).toNat : Int) = 0 := rfl
    rw [hz]
    go_enter Try.func7, Try.ntmps7
    go_wp2_with fail
    (with_reducible refine haw.mono ?_)
    rintro e w2 ⟨rfl, hb2⟩
    go_wp2
    go_ret
    exact ⟨rfl, hb2⟩

set_option maxHeartbeats 2000000 in
theorem frameturns_mid (A : Option Addr) (L : List UInt8) (ca : Nat) (v : Int) (c : UInt8) (w : World) (hA : Bs w A L) (hnil : A = none → ca = 0) (hv0 : -9223372036854775808 ≤ v) (hv1 : v ≤ 9223372036854775807) (h1 : 1 ≤ L.length) (h2 : L.length ≤ 20000) (hc : c ≠ 0) :
    Calls Try.prog 7 #[.slice A L.length ca, .int .i64 v, .int .u8 (c.toNat : Int)] w fun e w' => e = .returned (.bool true) ∧ Below w.heap.size w w' := by
  have hok : okF L := ⟨h1, by omega⟩
  have hby := bytes_any A L ca w (by omega) hA hnil
  have hc0 : ((c.toNat : Int) == 0) = false := by
    rw [beq_eq_false_iff_ne]
    intro e
    exact hc (UInt8.toNat_inj.1 (by have : c.toNat = 0 := by omega
                                    rw [this]; rfl))
  have hcb := byte_hi c
  obtain ⟨n, hn⟩ : ∃ n, (putF L).length = n := ⟨_, rfl⟩
  have hn5 := putF_pos L
  have hnl := putF_len L
  have hp4 := putI_ten (v := (L.length : Int)) (by omega) (by omega)
  rw [hn] at hn5 hnl
  have hn1 : 1 ≤ n := by omega
  have hnm : n ≤ 30000 := by omega
  obtain ⟨k, hk, cP⟩ := place_nat v n hv0 hv1 (by omega) (by omega)
  have hne0 : ((n : Int) == 0) = false := by simp; omega
  have HN := Lib.hid hn
  have HC := Lib.hid hc
  have HOK := Lib.hid hok
  clear hnl hp4 hn5 hn hA hnil hc hok
  go_enter Try.func7, Try.ntmps7
  go_wp2_with fail
  (with_reducible refine hby.mono ?_)
  rintro e w1 ⟨A1, cap1, rfl, hB1, hcap1, _, hb1⟩
  have cp := put_yes none A1 [] L 0 cap1 w1 (by simp) HOK.out (Bs.nil _ _) hB1
  simp only [List.nil_append, List.length_nil] at cp
  clear hby hB1 hcap1
  go_wp2_with fail
  (with_reducible refine cp.mono ?_)
  rintro e w2 ⟨A2, cap2, rfl, _, _, hown, hb2⟩
  obtain ⟨X, hX⟩ : ∃ X, putF L = X := ⟨_, rfl⟩
  rw [HN.out, hX] at hown
  rw [HN.out]
  have hXl : X.length = n := by rw [← hX, HN.out]
  have hQ : Below w.heap.size w w2 := hb1.trans (hb2.mono hb1.size)
  obtain ⟨g, cap3, hform, hgw, _⟩ := World.ownsRow.form hown (by omega)
  injection hform with hA2 _ hcc
  subst hA2
  subst hcc
  have hg : w.heap.size ≤ g := Nat.le_trans hb1.size hgw
  have hcell := own_cell hown k hk hXl
  have hfr := World.ownsRow.frozenAt hown k
  have hnc := own_cap hown
  have hD : X.getD k 0 = X[k]'(by omega) := by rw [List.getD_eq_getElem?_getD, List.getElem?_eq_getElem (by omega)]; rfl
  have hxor := xor_byte (X.getD k 0) c
  have hst := (World.ownsRow.stored hown k (.int .u8 ((X.getD k 0 ^^^ c).toNat : Int))).1
  have hcs : Lib.byteCells (X.set k (X.getD k 0 ^^^ c)) = (Lib.byteCells X).set k (.int .u8 ((X.getD k 0 ^^^ c).toNat : Int)) := by unfold Lib.byteCells; rw [List.map_set]
  rw [← hcs] at hst
  have hBs := own_bs hst (by rw [List.length_set]; exact hXl)
  have htold : ∀ d, fr (X.set k (X.getD k 0 ^^^ c)) = some d → (putF d).length = n → False := fun d h hl => by
    obtain ⟨_, Y, e⟩ := fr_some h
    have hY : Y = [] := by
      have := congrArg List.length e
      rw [List.length_set, List.length_append, hXl, hl] at this
      exact List.eq_nil_of_length_eq_zero (by omega)
    rw [hY, List.append_nil] at e
    subst hX
    exact turn_told (k := k) (x := (putF L).getD k 0 ^^^ c) (by omega) (by rw [← hD]; exact xor_ne HC.out) e.symm
  have hsl : (X.set k (X.getD k 0 ^^^ c)).length = n := by rw [List.length_set]; exact hXl
  generalize X.set k (X.getD k 0 ^^^ c) = Y at *
  have HXOR := Lib.hid hxor
  have HT := Lib.hid htold
  have HBS := Lib.hid hBs
  have HSL := Lib.hid hsl
  have HQ := Lib.hid hQ
  have hbx := byte_hi (X.getD k 0)
  clear cp hown hb1 hb2 hst hcs hD hX hXl htold hBs hsl hxor hQ
  generalize X.getD k 0 = y at *
  go_wp2_with fail
  (with_reducible refine (cP w2).mono ?_)
  rintro e w' ⟨rfl, rfl⟩
  clear cP
  go_wp2_with fail
  rw [HXOR.out]
  have hb3 : Below w.heap.size w (w2.setCell ⟨g, k, none⟩ (.int .u8 ((y ^^^ c).toNat : Int))) := HQ.out.setCell (p := ⟨g, k, none⟩) hg _
  have cg := get_in (some ⟨g, 0, none⟩) Y cap2 0 (w2.setCell ⟨g, k, none⟩ (.int .u8 ((y ^^^ c).toNat : Int))) (by rw [HSL.out]; omega) (by rw [HSL.out]; exact hnc) (Nat.zero_le _) HBS.out
  rw [HSL.out, show ((0 : Nat) : Int) = 0 from rfl] at cg
  have hways : (gE Y 0 != 0) = true ∨ (gE Y 0 = 0 ∧ (gN Y 0 != (n : Int)) = true) := by
    cases hf : fr (Y.drop 0) with
    | none =>
      left
      unfold gE
      rw [hf]
      simp only
      split <;> rfl
    | some d =>
      right
      refine ⟨by unfold gE; rw [hf], ?_⟩
      have h := HT.out d hf
      unfold gN
      rw [hf]
      simp only [bne_iff_ne, ne_eq]
      exact fun hh => h (by omega)
  have HB3 := Lib.hid hb3
  clear HXOR HT HBS HSL HQ hb3 hcell hfr
  generalize w2.setCell ⟨g, k, none⟩ (.int .u8 ((y ^^^ c).toNat : Int)) = w3 at *
  generalize gE Y 0 = er at *
  generalize gN Y 0 = en at *
  (with_reducible refine cg.mono ?_)
  rintro e w4 ⟨A4, cap4, rfl, _, _, hb4⟩
  have haw := awake_any w4
  have HB4 := Lib.hid (HB3.out.trans (hb4.mono HB3.out.size))
  clear cg hb4 HB3
  rcases hways with hw | ⟨rfl, hw⟩
  all_goals
    go_wp2_with fail
    (with_reducible refine haw.mono ?_)
    rintro e w5 ⟨rfl, hb5⟩
    go_wp2
    go_ret
    exact ⟨rfl, HB4.out.trans (hb5.mono HB4.out.size)⟩

theorem frameturns_walk (A : Option Addr) (L : List UInt8) (ca : Nat) (v : Int) (c : UInt8) (w : World) (_ : L.length ≤ ca) (_ : ca ≤ 140737488351232) (hA : Bs w A L) (hnil : A = none → ca = 0) (hv0 : -9223372036854775808 ≤ v) (hv1 : v ≤ 9223372036854775807) :
    Calls Try.prog 7 #[.slice A L.length ca, .int .i64 v, .int .u8 (c.toNat : Int)] w fun e w' => e = .returned (.bool true) ∧ Below w.heap.size w w' := by
  by_cases h0 : L.length = 0
  · rw [h0]; exact frameturns_skip A 0 ca v c w (.inl rfl)
  · by_cases h1 : L.length ≤ 20000
    · by_cases hc : c = 0
      · exact frameturns_skip A L.length ca v c w (.inr (.inr ⟨by omega, h1, hc⟩))
      · exact frameturns_mid A L ca v c w hA hnil hv0 hv1 (by omega) h1 hc
    · exact frameturns_skip A L.length ca v c w (.inr (.inl ⟨by omega, by omega⟩))
set_option maxRecDepth 100000 in
theorem frameturns_lifted (os : Os) (started : os.Started) (H : Type) (enc : TypeId × Value → H) :
    ReturnsInHanded {} Try.checked os 7 .any (Rows.frameTurnsSpec.pre6 enc Try.prog Try.f7 Rows.frameTurnsRow.domain false) (Rows.frameTurnsSpec.post enc Try.prog Try.f7 false true false false) := by
  refine returnsInHanded_of_change_sized (C := Try.checked) own started (by kernel_rfl) Try.func7
    (ChangeSpec.witness6 (enc := enc) (C := Try.checked) false ⟨#[], #[.slice none 0 0, .int .i64 0, .int .u8 0], []⟩ 8 (by kernel_rfl) (by kernel_rfl) (by kernel_rfl) (by kernel_rfl)) ?_
  intro W base args ds gs before hval0 hW _ hsz0 _
  have hsz : (DataW.weightsEach Try.prog (Try.f7.params.toList ++ Rows.frameTurnsSpec.plain.varTypes Try.prog) (ds ++ gs)).all (· ≤ reachBytes) = true := hsz0
  have hval : ∀ (j : Nat) t v, Try.f7.params[j]? = some t → args[j]? = some v → Value.okWide Try.prog W .any base t v := hval0
  have hW' := hW
  obtain ⟨p, q, hA0, hV, rfl, _, _⟩ := hW
  have hA : DataW.TrodAll enc Try.prog W 0 (fun _ => true) true Try.f7.params.toList args.toList ds p := hA0
  rw [Try.params7] at hA hval hsz
  obtain ⟨v0, v1, v2, d0, d1, d2, p0, p1, p2, rfl, rfl, rfl, h0, h1, h2⟩ := trodAll_three hA
  obtain ⟨rfl, rfl⟩ := trodVars_none hV
  simp only [List.append_nil] at hW'
  have hlt0 : ∀ x ∈ p0, x.block < W.heap.size := fun x hx => hW'.lt x (by simp [hx])
  have h0k := h0
  obtain ⟨A0, L0, c0, rfl, lc0, cm0, B0, N0⟩ := open_bytes Try.underlying22 Try.underlying5 (by kernel_rfl) (hval 0 22 v0 rfl rfl) h0 (fun elems spare e => by
    subst e
    have := sized_slice hsz (j := 0) (t := 22) (e := 5) rfl rfl Try.underlying22
    rwa [show Try.prog.bytesOf 5 = 1 by kernel_rfl] at this)
  obtain ⟨x1, rfl, rfl, rfl, wx1⟩ := open_int Try.underlying3 (hval 1 3 v1 rfl rfl) h1
  obtain ⟨x2, rfl, rfl, rfl, wx2⟩ := open_int Try.underlying5 (hval 2 5 v2 rfl rfl) h2
  obtain ⟨X2, rfl⟩ := byte_is x2 (bounds_u8 wx2).1 (bounds_u8 wx2).2
  refine (frameturns_walk A0 L0 c0 x1 X2 W lc0 cm0 B0 N0 (bounds_i64 wx1).1 (bounds_i64 wx1).2).mono fun e W' ⟨he, hb⟩ => ?_
  subst he
  exact ⟨_, rfl, _, _, _, [], _, [], hW', trodAll_mk1 (shut_bool Try.underlying4 _), trodAll_mk3 (Below.trod laidOut (by kernel_rfl) (of_decide_eq_true (by kernel_rfl)) h0k hb hlt0) (shut_int Try.underlying3 wx1) (shut_int Try.underlying5 wx2), rfl, hb.frame _, fun h => by cases h⟩

theorem frameturns_holds : Rows.FrameTurnsSaid :=
  OpenClaim.holds_of_wide 7 Try.f7 rfl rfl rfl rfl rfl rfl rfl ⟨rfl, rfl, rfl, rfl, rfl⟩ rfl rfl rfl rfl rfl (by kernel_rfl) Try.func7 (by kernel_rfl)
    (of_decide_eq_true (by kernel_rfl)) (by unfold Func.isWrapper; first | (rw [if_pos (by decide +kernel)]; kernel_rfl) | (rw [if_neg (by decide +kernel)]; exact ⟨rfl, rfl⟩))
    (fun os started H enc _ => frameturns_lifted os started H enc)
end Go.Proofs.Ytpkbjiakjofcnaa
