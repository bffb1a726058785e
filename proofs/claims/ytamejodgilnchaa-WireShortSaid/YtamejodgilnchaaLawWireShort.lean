/- The statement WireShort: without its last byte a number, a text, a truth is not read. Conditions: none. -/
import Derived.Test.YtamejodgilnchaaWireAwake
namespace Go.Proofs.Ytamejodgilnchaa
open Go.ChangeShapes Go.WideShapes Go.ChangeAt Go.RowKit

/-- Without its last byte. -/
theorem bs_init {w : World} {A : Option Addr} {L : List UInt8} (h : Bs w A L) : Bs w A L.dropLast := by
  rw [List.dropLast_eq_take]; exact bs_take h _
theorem new_init (A : Option Addr) (L : List UInt8) (k cap : Nat) (w : World) (h1 : L.length = k + 1) (hl : k + 1 ≤ 140737488355328) (hB : Bs w A L) (hcap : A = none → cap = 0) :
    Calls Try.prog 18 #[.slice A k cap] w (Made w L.dropLast) := by
  have c := new_any A L.dropLast cap w (by rw [List.length_dropLast]; omega) (bs_init hB) hcap
  rwa [List.length_dropLast, show L.length - 1 = k by omega] at c

/-- A prefix of what one number is is none. -/
theorem rd_prefix {L R : List UInt8} {u : Nat} (h : rdU 0 0 L = some (u, R)) (T : List UInt8) : rdU 0 0 (L ++ T) = some (u, R ++ T) := by
  obtain ⟨x, e1, e2, _, e4⟩ := rdU_back L 0 0 u R (by decide) h
  have e5 : u = x := by rw [e2]; simp
  subst e5
  have e6 : u < 18446744073709551616 := by simpa using e4
  rw [e1, List.append_assoc, rdU_enc u 0 0 u (R ++ T) (Nat.le_refl _) (by decide) (fun h => absurd h (by decide)) (by simpa using e6)]
  simp
theorem short_int {v : Int} (h0 : -9223372036854775808 ≤ v) (h1 : v ≤ 9223372036854775807) : stI ((putI v).dropLast, false) = (0, ([], true)) := by
  cases e : rdU 0 0 (putI v).dropLast with
  | none => exact stI_none (s := ((putI v).dropLast, false)) e
  | some p =>
    obtain ⟨u, R⟩ := p
    have hp := putI_pos v
    have hne : putI v ≠ [] := fun e => by rw [e] at hp; exact absurd hp (by decide)
    have h2 := rd_prefix e [(putI v).getLast hne]
    rw [List.dropLast_concat_getLast hne] at h2
    have h3 := stI_put h0 h1 [] false
    rw [List.append_nil, stI_some (s := (putI v, false)) h2] at h3
    injection h3 with _ h3
    injection h3 with h3 _
    simp at h3
theorem short_text {s : List UInt8} (hs : s.length ≤ 140737488351232) (most : Int) : stC most ((putT s).dropLast, false) = (0, ([], true)) := by
  have hp := putI_pos (s.length : Int)
  cases hs0 : s with
  | nil =>
    have e : putT [] = putI 0 := by unfold putT; simp
    rw [e]
    have h := short_int (v := 0) (by decide) (by decide)
    by_cases hok : 0 ≤ (stI ((putI 0).dropLast, false)).1 ∧ (stI ((putI 0).dropLast, false)).1 ≤ most ∧ (stI ((putI 0).dropLast, false)).1 ≤ ((stI ((putI 0).dropLast, false)).2.1.length : Int)
    · rw [stC_yes hok, h]
    · exact stC_no hok
  | cons c s' =>
    rw [← hs0]
    have hl : 1 ≤ s.length := by rw [hs0]; simp
    have e : (putT s).dropLast = putI (s.length : Int) ++ s.dropLast := by
      unfold putT
      rw [List.dropLast_append_of_ne_nil (fun e => by rw [e] at hl; exact absurd hl (by decide))]
    have h := stI_put (v := (s.length : Int)) (by omega) (by omega) s.dropLast false
    rw [← e] at h
    refine stC_no ?_
    rw [h]
    simp only [List.length_dropLast]
    omega
theorem short_txt {s : List UInt8} (hs : s.length ≤ 140737488351232) (most : Int) : stT most ((putT s).dropLast, false) = ([], ([], true)) := by
  unfold stT; rw [short_text hs]; rfl

set_option maxHeartbeats 1000000 in
theorem wireshort_walk (v : Int) (s : ByteArray) (t : Bool) (w : World) (hv0 : -9223372036854775808 ≤ v) (hv1 : v ≤ 9223372036854775807) (hs : s.size ≤ 140737488351232) :
    Calls Try.prog 8 #[.int .i64 v, .string s, .bool t] w fun e w' => e = .returned (.bool true) ∧ Below w.heap.size w w' := by
  have hsz : s.size = s.data.toList.length := by simp
  have HI := Lib.hid (short_int hv0 hv1)
  have HT := Lib.hid (short_txt (s := s.data.toList) (by omega) (s.size : Int))
  have ca := put_nil v w hv0 hv1
  have cb := fun w => text_nil s w hs
  have cc := fun w => bool_nil t w
  have ha1 := putI_pos v
  have ha2 := putI_ten hv0 hv1
  have hb1 : 1 ≤ (putT s.data.toList).length := by unfold putT; rw [List.length_append]; have := putI_pos (s.data.toList.length : Int); omega
  have hb2 : (putT s.data.toList).length ≤ 140737488355328 := by
    unfold putT; rw [List.length_append]
    have := putI_ten (v := (s.data.toList.length : Int)) (by omega) (by omega)
    omega
  have hc1 : (putB t).length = 1 := rfl
  clear hsz
  generalize putI v = X at *
  generalize putT s.data.toList = Y at *
  generalize putB t = Z at *
  obtain ⟨kx, hkx⟩ : ∃ k, X.length = k + 1 := ⟨X.length - 1, by omega⟩
  obtain ⟨ky, hky⟩ : ∃ k, Y.length = k + 1 := ⟨Y.length - 1, by omega⟩
  rw [hkx] at ha1 ha2
  rw [hky] at hb1 hb2
  have hz1 : ((kx : Int) + 1 == 0) = false := by simp; omega
  have hz2 : ((ky : Int) + 1 == 0) = false := by simp; omega
  clear ha1 hb1
  go_enter Try.func8, Try.ntmps8
  go_wp2_with fail
  refine ca.mono ?_
  rintro e w1 ⟨A1, cap1, rfl, hB1, hn1, ho1, hq1⟩
  have hc1 := own_cap ho1
  clear ho1
  go_wp2_with fail
  refine (cb w1).mono ?_
  rintro e w2 ⟨A2, cap2, rfl, hB2, hn2, ho2, hq2⟩
  have hc2 := own_cap ho2
  clear ho2
  go_wp2_with fail
  refine (cc w2).mono ?_
  rintro e w3 ⟨A3, cap3, rfl, _, _, _, hq3⟩
  clear ca cb cc
  have hX := (hB1.below hq2).below hq3
  have hY := hB2.below hq3
  have hq : Below w.heap.size w w3 := (hq1.trans (hq2.mono hq1.size)).trans (hq3.mono (Nat.le_trans hq1.size hq2.size))
  clear hB1 hB2 hq1 hq2 hq3
  have cn1 := new_init A1 X kx cap1 w3 hkx (by omega) hX hn1
  have hw1 : w.heap.size ≤ w3.heap.size := hq.size
  have HY := Lib.hid hY
  have HQ := Lib.hid hq
  have HN2 := Lib.hid hn2
  clear hX hY hn1 hn2 hq
  go_wp2_with fail
  refine cn1.mono ?_
  rintro e w4 ⟨g1, rfl, hR1, hq4⟩
  have HR1 := Lib.hid hR1
  have cn2 := new_init A2 Y ky cap2 w4 hky (by omega) (HY.out.below hq4) HN2.out
  have HQ4 := Lib.hid (HQ.out.trans (hq4.mono HQ.out.size))
  have hw2 : w.heap.size ≤ w4.heap.size := HQ4.out.size
  clear cn1 hR1 hq4 HQ HY HN2
  go_wp2_with fail
  refine cn2.mono ?_
  rintro e w5 ⟨g2, rfl, hR2, hq5⟩
  have HR1b := Lib.hid (HR1.out.below hq5 (Nat.le_refl _))
  have HR2 := Lib.hid hR2
  have HQ5 := Lib.hid (HQ4.out.trans (hq5.mono HQ4.out.size))
  have hw3 : w.heap.size ≤ w5.heap.size := HQ5.out.size
  have cn3 := new_any none [] 0 w5 (by simp) (Bs.nil _ _) (fun _ => rfl)
  have hg12 : g1 ≠ g2 := by have h1 := HR1.out.lt; have h2 := hR2.1; omega
  clear cn2 hR2 hq5 HQ4 HR1
  go_wp2_with fail
  refine cn3.mono ?_
  rintro e w6 ⟨g3, rfl, hR3, hq6⟩
  have HR1 := Lib.hid (HR1b.out.below hq6 (Nat.le_refl _))
  have HR2b := Lib.hid (HR2.out.below hq6 (Nat.le_refl _))
  have HR3 := Lib.hid hR3
  have HQ := Lib.hid (HQ5.out.trans (hq6.mono HQ5.out.size))
  have hg13 : g1 ≠ g3 := by have h1 := HR1b.out.lt; have h2 := hR3.1; omega
  have hg23 : g2 ≠ g3 := by have h1 := HR2.out.lt; have h2 := hR3.1; omega
  have hw1g : w.heap.size ≤ g1 := Nat.le_trans hw1 HR1.out.1
  have hw2g : w.heap.size ≤ g2 := Nat.le_trans hw2 HR2b.out.1
  have hw3g : w.heap.size ≤ g3 := Nat.le_trans hw3 hR3.1
  have ci := int_any _ g1 _ w6 HR1.out
  rw [HI.out] at ci
  clear cn3 hR3 hq6 HQ5 HR1b HR2 hw1 hw2 hw3
  go_wp2_with fail
  refine ci.mono ?_
  rintro e w7 ⟨rfl, hR1, hO⟩
  have co := ok_any _ g1 _ w7 hR1
  have HR2 := Lib.hid (HR2b.out.other HR1.out hO hg12.symm)
  have HR3b := Lib.hid (HR3.out.other HR1.out hO hg13.symm)
  have HQ7 := Lib.hid (HQ.out.trans (hO.below hw1g))
  have ct := text_any _ g2 _ (s.size : Int) w7 HR2.out
  rw [HT.out] at ct
  clear ci hR1 hO HR1 HR2b HR3 HQ
  go_wp2_with fail
  refine co.mono ?_
  rintro e w' ⟨rfl, rfl⟩
  clear co
  go_wp2_with fail
  refine ct.mono ?_
  rintro e w8 ⟨rfl, hR2, hO⟩
  have co := ok_any _ g2 _ w8 hR2
  have HR3 := Lib.hid (HR3b.out.other HR2.out hO hg23.symm)
  have HQ8 := Lib.hid (HQ7.out.trans (hO.below hw2g))
  have cb := bool_any _ g3 _ w8 HR3.out
  rw [stB_nil] at cb
  clear ct hR2 hO HR2 HR3b HQ7
  go_wp2_with fail
  refine co.mono ?_
  rintro e w' ⟨rfl, rfl⟩
  clear co
  go_wp2_with fail
  refine cb.mono ?_
  rintro e w9 ⟨rfl, hR3, hO⟩
  have co := ok_any _ g3 _ w9 hR3
  have HQ9 := Lib.hid (HQ8.out.trans (hO.below hw3g))
  have haw := awake_any w9
  clear cb hR3 hO HR3 HQ8
  go_wp2_with fail
  refine co.mono ?_
  rintro e w' ⟨rfl, rfl⟩
  clear co
  go_wp2_with fail
  refine haw.mono ?_
  rintro e w10 ⟨rfl, hq⟩
  go_wp2
  go_ret
  exact ⟨rfl, HQ9.out.trans (hq.mono HQ9.out.size)⟩
set_option maxRecDepth 100000 in
theorem wireshort_lifted (os : Os) (started : os.Started) (H : Type) (enc : TypeId × Value → H) :
    ReturnsInHanded {} Try.checked os 8 .any (Rows.wireShortSpec.pre6 enc Try.prog Try.f8 Rows.wireShortRow.domain false) (Rows.wireShortSpec.post enc Try.prog Try.f8 false true false false) := by
  refine returnsInHanded_of_change_sized (C := Try.checked) own started (by kernel_rfl) Try.func8
    (ChangeSpec.witness6 (enc := enc) (C := Try.checked) false ⟨#[], #[.int .i64 0, .string ⟨#[]⟩, .bool false], []⟩ 8 (by kernel_rfl) (by kernel_rfl) (by kernel_rfl) (by kernel_rfl)) ?_
  intro W base args ds gs before hval0 hW _ hsz0 _
  have hsz : (DataW.weightsEach Try.prog (Try.f8.params.toList ++ Rows.wireShortSpec.plain.varTypes Try.prog) (ds ++ gs)).all (· ≤ reachBytes) = true := hsz0
  have hval : ∀ (j : Nat) t v, Try.f8.params[j]? = some t → args[j]? = some v → Value.okWide Try.prog W .any base t v := hval0
  have hW' := hW
  obtain ⟨p, q, hA0, hV, rfl, _, _⟩ := hW
  have hA : DataW.TrodAll enc Try.prog W 0 (fun _ => true) true Try.f8.params.toList args.toList ds p := hA0
  rw [Try.params8] at hA hval hsz
  obtain ⟨v0, v1, v2, d0, d1, d2, p0, p1, p2, rfl, rfl, rfl, h0, h1, h2⟩ := trodAll_three hA
  obtain ⟨rfl, rfl⟩ := trodVars_none hV
  simp only [List.append_nil] at hW'
  obtain ⟨x0, rfl, rfl, rfl, wx0⟩ := open_int Try.underlying3 (hval 0 3 v0 rfl rfl) h0
  obtain ⟨x1, rfl, rfl, rfl, wx1⟩ := Go.ChangeMaps.open_string Try.underlying9 (hval 1 9 v1 rfl rfl) h1
  have rx1 : x1.size ≤ 140737488351232 := size_reach (sized_string hsz (j := 1) (t := 9) rfl rfl)
  obtain ⟨x2, rfl, rfl, rfl⟩ := open_bool Try.underlying4 (hval 2 4 v2 rfl rfl) h2
  refine (wireshort_walk x0 x1 x2 W (bounds_i64 wx0).1 (bounds_i64 wx0).2 rx1).mono fun e W' ⟨he, hb⟩ => ?_
  subst he
  exact ⟨_, rfl, _, _, _, [], _, [], hW', trodAll_mk1 (shut_bool Try.underlying4 _), trodAll_mk3 (shut_int Try.underlying3 wx0) (Go.ChangeMaps.shut_string Try.underlying9 wx1) (shut_bool Try.underlying4 x2), rfl, hb.frame _, fun h => by cases h⟩

theorem wireshort_holds : Rows.WireShortSaid :=
  OpenClaim.holds_of_wide 8 Try.f8 rfl rfl rfl rfl rfl rfl rfl ⟨rfl, rfl, rfl, rfl, rfl⟩ rfl rfl rfl rfl rfl (by kernel_rfl) Try.func8 (by kernel_rfl)
    (of_decide_eq_true (by kernel_rfl)) (by unfold Func.isWrapper; first | (rw [if_pos (by decide +kernel)]; kernel_rfl) | (rw [if_neg (by decide +kernel)]; exact ⟨rfl, rfl⟩))
    (fun os started H enc _ => wireshort_lifted os started H enc)
end Go.Proofs.Ytamejodgilnchaa
