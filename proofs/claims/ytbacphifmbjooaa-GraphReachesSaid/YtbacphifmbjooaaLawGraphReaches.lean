/- The statement GraphReaches: who needs one of some, as the document's own answer has them. Conditions: none. -/
import Derived.Test.YtbacphifmbjooaaGrF
import Derived.Test.YtbacphifmbjooaaGrS
namespace Go.Proofs.Ytbacphifmbjooaa
open Go.ChangeShapes Go.WideShapes Go.ChangeAt Go.RowKit

theorem reachI_len (n : Int) (L : List (List Int)) (F : List Int) : (reachI n L F).length ≤ 17592186044416 := by
  unfold reachI
  cases hm : mayB n with
  | false => simp
  | true =>
    obtain ⟨m, rfl, h4⟩ := mayB_nat hm
    have := reach_len m L F
    simp only [if_true, Int.toNat_natCast]
    omega
set_option maxHeartbeats 4000000 in
set_option maxRecDepth 100000 in
theorem graphreaches_go (n : Int) (A : Option Addr) (L : List (List Int)) (c : Nat) (B : Option Addr) (F : List Int) (cB : Nat) (w : World) (hgo : n < 0 ∨ fewB n L = true) (h80 : F.length ≤ 80) (hl : L.length ≤ 5864062014805) (hL : LL w A L) (hF : Is w B F) (hnil : B = none → cB = 0) :
    Calls Try.prog 4 #[.int .i64 n, .slice A L.length c, .slice B F.length cB] w fun e w' => e = .returned (.bool true) ∧ Below w.heap.size w w' := by
  have cf := few_any n A L c w hL
  have cl := lists_any A L c w hL hl
  have ci := fun (w1 : World) (h : Is w1 B F) => ints_any B F cB w1 (by omega) h hnil
  have co := fun (w2 : World) A1 c1 A2 c2 (hlc : L.length ≤ c1) (h : LL w2 A1 L) (h2 : Is w2 A2 F) => reach_any n A1 L c1 A2 F c2 w2 hlc h (by omega) h2
  have cr := fun (w3 : World) (h : LL w3 A L) (h2 : Is w3 B F) => rreach_any n A L c B F cB w3 h (by omega) h2
  have l1 := reachI_len n L F
  have HL := Lib.hid hL
  have HF := Lib.hid hF
  have ca := awake_any
  have h8z : ¬ (80 : Int) < (F.length : Int) := by omega
  clear hL hF hnil
  generalize reachI n L F = Z at *
  have czz := fun (w : World) (A B : Option Addr) (ca cb : Nat) (hA : Is w A Z) (hB : Is w B Z) => same_any A B Z Z ca cb w l1 hA hB
  rw [decide_eq_true (rfl : Z = Z)] at czz
  by_cases h0 : 0 ≤ n
  · have hfb : fewB n L = true := by rcases hgo with h | h; omega; exact h
    rw [hfb] at cf
    clear hgo hfb
    go_enter Try.func4, Try.ntmps4
    go_wp2_with fail
    (with_reducible refine cf.mono ?_)
    rintro e w0 ⟨rfl, rfl⟩
    clear cf
    go_wp2_with fail
    (with_reducible refine cl.mono ?_)
    rintro e w1 ⟨A1, c1, rfl, hlc1, -, hL1, hb1⟩
    have HL1 := Lib.hid hL1
    have HB1 := Lib.hid hb1
    have ci' := ci w1 (HF.out.below hb1)
    clear cl hL1 hb1 ci
    go_wp2_with fail
    (with_reducible refine ci'.mono ?_)
    rintro e w2 ⟨A2, c2, rfl, -, h2, -, -, hb2⟩
    have HB2 := Lib.hid (HB1.out.trans (hb2.mono HB1.out.size))
    have co' := co w2 A1 c1 A2 c2 hlc1 (HL1.out.below hb2) h2
    clear ci' h2 hb2 HL1 co
    go_wp2_with fail
    (with_reducible refine co'.mono ?_)
    rintro e w3 ⟨A3, c3, rfl, -, -, h3, hb3⟩
    have HZ := Lib.hid h3
    have HB3 := Lib.hid (HB2.out.trans (hb3.mono HB2.out.size))
    have cr' := cr w3 (HL.out.below HB3.out) (HF.out.below HB3.out)
    clear co' h3 hb3 cr
    go_wp2_with fail
    (with_reducible refine cr'.mono ?_)
    rintro e w4 ⟨A4, c4, rfl, -, -, h4, hb4⟩
    have HB4 := Lib.hid (HB3.out.trans (hb4.mono HB3.out.size))
    have cz := czz w4 A3 A4 c3 c4 (HZ.out.below hb4) h4
    clear cr' h4 hb4 HZ czz
    go_wp2_with fail
    (with_reducible refine cz.mono ?_)
    rintro e w5 ⟨rfl, hb5⟩
    have HB5 := Lib.hid (HB4.out.trans (hb5.mono HB4.out.size))
    clear cz hb5
    go_wp2_with fail
    (with_reducible refine (ca w5).mono ?_)
    rintro e w6 ⟨rfl, hb6⟩
    have HB6 := Lib.hid (HB5.out.trans (hb6.mono HB5.out.size))
    clear hb6
    go_wp2_with fail
    go_ret
    exact ⟨rfl, HB6.out⟩
  · clear hgo cf
    go_enter Try.func4, Try.ntmps4
    go_wp2_with fail
    (with_reducible refine cl.mono ?_)
    rintro e w1 ⟨A1, c1, rfl, hlc1, -, hL1, hb1⟩
    have HL1 := Lib.hid hL1
    have HB1 := Lib.hid hb1
    have ci' := ci w1 (HF.out.below hb1)
    clear cl hL1 hb1 ci
    go_wp2_with fail
    (with_reducible refine ci'.mono ?_)
    rintro e w2 ⟨A2, c2, rfl, -, h2, -, -, hb2⟩
    have HB2 := Lib.hid (HB1.out.trans (hb2.mono HB1.out.size))
    have co' := co w2 A1 c1 A2 c2 hlc1 (HL1.out.below hb2) h2
    clear ci' h2 hb2 HL1 co
    go_wp2_with fail
    (with_reducible refine co'.mono ?_)
    rintro e w3 ⟨A3, c3, rfl, -, -, h3, hb3⟩
    have HZ := Lib.hid h3
    have HB3 := Lib.hid (HB2.out.trans (hb3.mono HB2.out.size))
    have cr' := cr w3 (HL.out.below HB3.out) (HF.out.below HB3.out)
    clear co' h3 hb3 cr
    go_wp2_with fail
    (with_reducible refine cr'.mono ?_)
    rintro e w4 ⟨A4, c4, rfl, -, -, h4, hb4⟩
    have HB4 := Lib.hid (HB3.out.trans (hb4.mono HB3.out.size))
    have cz := czz w4 A3 A4 c3 c4 (HZ.out.below hb4) h4
    clear cr' h4 hb4 HZ czz
    go_wp2_with fail
    (with_reducible refine cz.mono ?_)
    rintro e w5 ⟨rfl, hb5⟩
    have HB5 := Lib.hid (HB4.out.trans (hb5.mono HB4.out.size))
    clear cz hb5
    go_wp2_with fail
    (with_reducible refine (ca w5).mono ?_)
    rintro e w6 ⟨rfl, hb6⟩
    have HB6 := Lib.hid (HB5.out.trans (hb6.mono HB5.out.size))
    clear hb6
    go_wp2_with fail
    go_ret
    exact ⟨rfl, HB6.out⟩
set_option maxHeartbeats 4000000 in
set_option maxRecDepth 100000 in
theorem graphreaches_walk (n : Int) (A : Option Addr) (L : List (List Int)) (c : Nat) (B : Option Addr) (F : List Int) (cB : Nat) (w : World) (_hlo : -9223372036854775808 ≤ n) (_hhi : n ≤ 9223372036854775807) (_hc : L.length ≤ c) (hl : L.length ≤ 5864062014805) (hL : LL w A L)
    (_hcB : F.length ≤ cB) (_hcm : cB ≤ 17592186044416) (hF : Is w B F) (_hz : ∀ z ∈ F, -9223372036854775808 ≤ z ∧ z ≤ 9223372036854775807) (hnil : B = none → cB = 0) :
    Calls Try.prog 4 #[.int .i64 n, .slice A L.length c, .slice B F.length cB] w fun e w' => e = .returned (.bool true) ∧ Below w.heap.size w w' := by
  have ca := awake_any w
  by_cases hgo : n < 0 ∨ fewB n L = true
  · by_cases h80 : F.length ≤ 80
    · exact graphreaches_go n A L c B F cB w hgo h80 hl hL hF hnil
    · have h8z : (80 : Int) < (F.length : Int) := by omega
      by_cases h0 : 0 ≤ n
      · have hfb : fewB n L = true := by rcases hgo with h | h; omega; exact h
        have cf := few_any n A L c w hL
        rw [hfb] at cf
        clear hgo hfb hL hF hnil
        go_enter Try.func4, Try.ntmps4
        go_wp2_with fail
        (with_reducible refine cf.mono ?_)
        rintro e w0 ⟨rfl, rfl⟩
        clear cf
        go_wp2_with fail
        (with_reducible refine ca.mono ?_)
        rintro e w2 ⟨rfl, hb⟩
        clear ca
        go_wp2_with fail
        go_ret
        exact ⟨rfl, hb⟩
      · clear hgo hL hF hnil
        go_enter Try.func4, Try.ntmps4
        go_wp2_with fail
        (with_reducible refine ca.mono ?_)
        rintro e w2 ⟨rfl, hb⟩
        clear ca
        go_wp2_with fail
        go_ret
        exact ⟨rfl, hb⟩
  · have h1 : 0 ≤ n := by
      by_cases h : 0 ≤ n
      · exact h
      · exact absurd (.inl (by omega)) hgo
    have hfb : fewB n L = false := by
      cases h : fewB n L with
      | false => rfl
      | true => exact absurd (.inr h) hgo
    have cf := few_any n A L c w hL
    rw [hfb] at cf
    clear hgo hfb hL hF hnil
    go_enter Try.func4, Try.ntmps4
    go_wp2_with fail
    (with_reducible refine cf.mono ?_)
    rintro e w0 ⟨rfl, rfl⟩
    clear cf
    go_wp2_with fail
    (with_reducible refine ca.mono ?_)
    rintro e w2 ⟨rfl, hb⟩
    clear ca
    go_wp2_with fail
    go_ret
    exact ⟨rfl, hb⟩
set_option maxRecDepth 100000 in
theorem graphreaches_lifted (os : Os) (started : os.Started) (H : Type) (enc : TypeId × Value → H) :
    ReturnsInHanded {} Try.checked os 4 .any (Rows.graphReachesSpec.pre6 enc Try.prog Try.f4 Rows.graphReachesRow.domain false) (Rows.graphReachesSpec.post enc Try.prog Try.f4 false true false false) := by
  refine returnsInHanded_of_change_sized (C := Try.checked) own started (by kernel_rfl) Try.func4
    (ChangeSpec.witness6 (enc := enc) (C := Try.checked) false ⟨#[], #[.int .i64 0, .slice none 0 0, .slice none 0 0], []⟩ 8 (by kernel_rfl) (by kernel_rfl) (by kernel_rfl) (by kernel_rfl)) ?_
  intro W base args ds gs before hval0 hW _ hsz0 _
  have hsz : (DataW.weightsEach Try.prog (Try.f4.params.toList ++ Rows.graphReachesSpec.plain.varTypes Try.prog) (ds ++ gs)).all (· ≤ reachBytes) = true := hsz0
  have hval : ∀ (j : Nat) t v, Try.f4.params[j]? = some t → args[j]? = some v → Value.okWide Try.prog W .any base t v := hval0
  have hW' := hW
  obtain ⟨p, q, hA0, hV, rfl, _, _⟩ := hW
  have hA : DataW.TrodAll enc Try.prog W 0 (fun _ => true) true Try.f4.params.toList args.toList ds p := hA0
  rw [Try.params4] at hA hval hsz
  obtain ⟨v0, v1, v2, d0, d1, d2, p0, p1, p2, rfl, rfl, rfl, h0, h1, h2⟩ := trodAll_three hA
  obtain ⟨rfl, rfl⟩ := trodVars_none hV
  simp only [List.append_nil] at hW'
  obtain ⟨x0, rfl, rfl, rfl, wx0⟩ := open_int Try.underlying3 (hval 0 3 v0 rfl rfl) h0
  have hlt1 : ∀ x ∈ p1, x.block < W.heap.size := fun x hx => hW'.lt x (by simp [hx])
  have h1k := h1
  obtain ⟨A1, L1, c1, rfl, lc1, cm1, B1⟩ := open_lists Try.underlying22 Try.underlying26 Try.underlying3 (by kernel_rfl) (by kernel_rfl) (by kernel_rfl) (by kernel_rfl) (hval 1 22 v1 rfl rfl) h1 (fun k hk => by
    have := List.all_eq_true.1 hsz _ (DataW.weights_mem_each (j := 1) (t := 22) rfl rfl k hk)
    simpa using this)
  have hlt2 : ∀ x ∈ p2, x.block < W.heap.size := fun x hx => hW'.lt x (by simp [hx])
  have h2k := h2
  obtain ⟨A2, L2, c2, rfl, lc2, cm2, B2, N2, Q2⟩ := open_nums Try.underlying26 Try.underlying3 (by kernel_rfl) (hval 2 26 v2 rfl rfl) h2 (fun elems spare e => by
    subst e
    have := sized_slice hsz (j := 2) (t := 26) (e := 3) rfl rfl Try.underlying26
    rwa [show Try.prog.bytesOf 3 = 8 by kernel_rfl] at this)
  refine (graphreaches_walk x0 A1 L1 c1 A2 L2 c2 W (bounds_i64 wx0).1 (bounds_i64 wx0).2 lc1 cm1 B1 lc2 cm2 B2 N2 Q2).mono fun e W' ⟨he, hb⟩ => ?_
  subst he
  exact ⟨_, rfl, _, _, _, [], _, [], hW', trodAll_mk1 (shut_bool Try.underlying4 _), trodAll_mk3 (shut_int Try.underlying3 wx0) (Below.trod laidOut (by kernel_rfl) (of_decide_eq_true (by kernel_rfl)) h1k hb hlt1) (Below.trod laidOut (by kernel_rfl) (of_decide_eq_true (by kernel_rfl)) h2k hb hlt2), rfl, hb.frame _, fun h => by cases h⟩

theorem graphreaches_holds : Rows.GraphReachesSaid :=
  OpenClaim.holds_of_wide 4 Try.f4 rfl rfl rfl rfl rfl rfl rfl ⟨rfl, rfl, rfl, rfl, rfl⟩ rfl rfl rfl rfl rfl (by kernel_rfl) Try.func4 (by kernel_rfl)
    (of_decide_eq_true (by kernel_rfl)) (by unfold Func.isWrapper; first | (rw [if_pos (by decide +kernel)]; kernel_rfl) | (rw [if_neg (by decide +kernel)]; exact ⟨rfl, rfl⟩))
    (fun os started H enc _ => graphreaches_lifted os started H enc)
end Go.Proofs.Ytbacphifmbjooaa
