/- The statement GraphOrders: any needs: the order, or who is left over, as the document's own answer has them. Conditions: none. -/
import Derived.Test.YtbacphifmbjooaaGrF
namespace Go.Proofs.Ytbacphifmbjooaa
open Go.ChangeShapes Go.WideShapes Go.ChangeAt Go.RowKit

theorem ordI_len (n : Int) (L : List (List Int)) : (ordI n L).length ≤ 17592186044416 := by
  unfold ordI
  cases hm : mayB n with
  | false => simp
  | true =>
    obtain ⟨m, rfl, h4⟩ := mayB_nat hm
    have := told_len m L
    simp only [if_true, Int.toNat_natCast]
    unfold ordZ
    split
    · simp
    · rw [iz_len]; omega
theorem stuckI_len (n : Int) (L : List (List Int)) : (stuckI n L).length ≤ 17592186044416 := by
  unfold stuckI
  cases hm : mayB n with
  | false => simp
  | true =>
    obtain ⟨m, rfl, h4⟩ := mayB_nat hm
    have := stuck_len m L
    simp only [if_true, Int.toNat_natCast]
    omega
set_option maxHeartbeats 4000000 in
theorem graphorders_go (n : Int) (A : Option Addr) (L : List (List Int)) (c : Nat) (w : World) (hgo : n < 0 ∨ fewB n L = true) (hl : L.length ≤ 5864062014805) (hL : LL w A L) :
    Calls Try.prog 3 #[.int .i64 n, .slice A L.length c] w fun e w' => e = .returned (.bool true) ∧ Below w.heap.size w w' := by
  have cf := few_any n A L c w hL
  have cl := lists_any A L c w hL hl
  have co := fun (w1 : World) A1 c1 (h : LL w1 A1 L) => order_any n A1 L c1 w1 h
  have cr := fun (w2 : World) (h : LL w2 A L) => rorder_any n A L c w2 h
  have cs := fun (w3 : World) A1 c1 (h : LL w3 A1 L) => stuck_any n A1 L c1 w3 h
  have ct := fun (w4 : World) (h : LL w4 A L) => rstuck_any n A L c w4 h
  have l1 := ordI_len n L
  have l2 := stuckI_len n L
  have HL := Lib.hid hL
  have ca := awake_any
  clear hL
  generalize ordI n L = Z at *
  generalize ordIB n L = b at *
  generalize stuckI n L = S at *
  have hbb : (b == b) = true := by simp
  have czz := fun (w : World) (A B : Option Addr) (ca cb : Nat) (hA : Is w A Z) (hB : Is w B Z) => same_any A B Z Z ca cb w l1 hA hB
  have css := fun (w : World) (A B : Option Addr) (ca cb : Nat) (hA : Is w A S) (hB : Is w B S) => same_any A B S S ca cb w l2 hA hB
  rw [decide_eq_true (rfl : Z = Z)] at czz
  rw [decide_eq_true (rfl : S = S)] at css
  have HG := Lib.hid hgo
  by_cases h0 : 0 ≤ n
  · have hfb : fewB n L = true := by rcases hgo with h | h; omega; exact h
    rw [hfb] at cf
    clear hgo hfb
    go_enter Try.func3, Try.ntmps3
    go_wp2_with fail
    (with_reducible refine cf.mono ?_)
    rintro e w0 ⟨rfl, rfl⟩
    clear cf
    go_wp2_with fail
    (with_reducible refine cl.mono ?_)
    rintro e w1 ⟨A1, c1, rfl, -, -, hL1, hb1⟩
    have HL1 := Lib.hid hL1
    have HB1 := Lib.hid hb1
    have co' := co w1 A1 c1 hL1
    clear cl hL1 hb1 co
    go_wp2_with fail
    (with_reducible refine co'.mono ?_)
    rintro e w2 ⟨A2, c2, rfl, -, h2, hb2⟩
    have HZ := Lib.hid h2
    have HB2 := Lib.hid (HB1.out.trans (hb2.mono HB1.out.size))
    have HL2 := Lib.hid (HL1.out.below hb2)
    have cr' := cr w2 (HL.out.below HB2.out)
    clear co' h2 hb2 HL1 cr
    go_wp2_with fail
    (with_reducible refine cr'.mono ?_)
    rintro e w3 ⟨A3, c3, rfl, -, h3, hb3⟩
    have HB3 := Lib.hid (HB2.out.trans (hb3.mono HB2.out.size))
    have HL3 := Lib.hid (HL2.out.below hb3)
    have cz := czz w3 A2 A3 c2 c3 (HZ.out.below hb3) h3
    clear cr' h3 hb3 HL2 HZ czz
    go_wp2_with fail
    (with_reducible refine cz.mono ?_)
    rintro e w4 ⟨rfl, hb4⟩
    have HB4 := Lib.hid (HB3.out.trans (hb4.mono HB3.out.size))
    have cs' := cs w4 A1 c1 (HL3.out.below hb4)
    clear cz hb4 HL3 cs
    go_wp2_with fail
    (with_reducible refine cs'.mono ?_)
    rintro e w5 ⟨A5, c5, rfl, -, -, h5, hb5⟩
    have HB5 := Lib.hid (HB4.out.trans (hb5.mono HB4.out.size))
    have H5 := Lib.hid h5
    have ct' := ct w5 (HL.out.below HB5.out)
    clear cs' h5 hb5 ct
    go_wp2_with fail
    (with_reducible refine ct'.mono ?_)
    rintro e w6 ⟨A6, c6, rfl, -, -, h6, hb6⟩
    have HB6 := Lib.hid (HB5.out.trans (hb6.mono HB5.out.size))
    have cs6 := css w6 A5 A6 c5 c6 (H5.out.below hb6) h6
    clear ct' h6 hb6 H5 css
    go_wp2_with fail
    (with_reducible refine cs6.mono ?_)
    rintro e w7 ⟨rfl, hb7⟩
    have HB7 := Lib.hid (HB6.out.trans (hb7.mono HB6.out.size))
    clear cs6 hb7
    go_wp2_with fail
    (with_reducible refine (ca w7).mono ?_)
    rintro e w8 ⟨rfl, hb8⟩
    have HB8 := Lib.hid (HB7.out.trans (hb8.mono HB7.out.size))
    clear hb8
    go_wp2_with fail
    go_ret
    exact ⟨rfl, HB8.out⟩
  · clear hgo cf
    go_enter Try.func3, Try.ntmps3
    go_wp2_with fail
    go_wp2_with fail
    (with_reducible refine cl.mono ?_)
    rintro e w1 ⟨A1, c1, rfl, -, -, hL1, hb1⟩
    have HL1 := Lib.hid hL1
    have HB1 := Lib.hid hb1
    have co' := co w1 A1 c1 hL1
    clear cl hL1 hb1 co
    go_wp2_with fail
    (with_reducible refine co'.mono ?_)
    rintro e w2 ⟨A2, c2, rfl, -, h2, hb2⟩
    have HZ := Lib.hid h2
    have HB2 := Lib.hid (HB1.out.trans (hb2.mono HB1.out.size))
    have HL2 := Lib.hid (HL1.out.below hb2)
    have cr' := cr w2 (HL.out.below HB2.out)
    clear co' h2 hb2 HL1 cr
    go_wp2_with fail
    (with_reducible refine cr'.mono ?_)
    rintro e w3 ⟨A3, c3, rfl, -, h3, hb3⟩
    have HB3 := Lib.hid (HB2.out.trans (hb3.mono HB2.out.size))
    have HL3 := Lib.hid (HL2.out.below hb3)
    have cz := czz w3 A2 A3 c2 c3 (HZ.out.below hb3) h3
    clear cr' h3 hb3 HL2 HZ czz
    go_wp2_with fail
    (with_reducible refine cz.mono ?_)
    rintro e w4 ⟨rfl, hb4⟩
    have HB4 := Lib.hid (HB3.out.trans (hb4.mono HB3.out.size))
    have cs' := cs w4 A1 c1 (HL3.out.below hb4)
    clear cz hb4 HL3 cs
    go_wp2_with fail
    (with_reducible refine cs'.mono ?_)
    rintro e w5 ⟨A5, c5, rfl, -, -, h5, hb5⟩
    have HB5 := Lib.hid (HB4.out.trans (hb5.mono HB4.out.size))
    have H5 := Lib.hid h5
    have ct' := ct w5 (HL.out.below HB5.out)
    clear cs' h5 hb5 ct
    go_wp2_with fail
    (with_reducible refine ct'.mono ?_)
    rintro e w6 ⟨A6, c6, rfl, -, -, h6, hb6⟩
    have HB6 := Lib.hid (HB5.out.trans (hb6.mono HB5.out.size))
    have cs6 := css w6 A5 A6 c5 c6 (H5.out.below hb6) h6
    clear ct' h6 hb6 H5 css
    go_wp2_with fail
    (with_reducible refine cs6.mono ?_)
    rintro e w7 ⟨rfl, hb7⟩
    have HB7 := Lib.hid (HB6.out.trans (hb7.mono HB6.out.size))
    clear cs6 hb7
    go_wp2_with fail
    (with_reducible refine (ca w7).mono ?_)
    rintro e w8 ⟨rfl, hb8⟩
    have HB8 := Lib.hid (HB7.out.trans (hb8.mono HB7.out.size))
    clear hb8
    go_wp2_with fail
    go_ret
    exact ⟨rfl, HB8.out⟩
theorem graphorders_walk (n : Int) (A : Option Addr) (L : List (List Int)) (c : Nat) (w : World) (hlo : -9223372036854775808 ≤ n) (hhi : n ≤ 9223372036854775807) (_hc : L.length ≤ c) (hl : L.length ≤ 5864062014805) (hL : LL w A L) :
    Calls Try.prog 3 #[.int .i64 n, .slice A L.length c] w fun e w' => e = .returned (.bool true) ∧ Below w.heap.size w w' := by
  by_cases h0 : n < 0
  · exact graphorders_go n A L c w (.inl h0) hl hL
  cases hf : fewB n L with
  | true => exact graphorders_go n A L c w (.inr hf) hl hL
  | false =>
    have cf := few_any n A L c w hL
    rw [hf] at cf
    have ca := awake_any w
    have h1 : 0 ≤ n := by omega
    clear hf hL h0
    go_enter Try.func3, Try.ntmps3
    go_wp2_with fail
    (with_reducible refine cf.mono ?_)
    rintro e w1 ⟨rfl, rfl⟩
    clear cf
    go_wp2_with fail
    (with_reducible refine ca.mono ?_)
    rintro e w2 ⟨rfl, hb⟩
    clear ca
    go_wp2_with fail
    go_ret
    exact ⟨rfl, hb⟩
set_option maxRecDepth 100000 in
theorem graphorders_lifted (os : Os) (started : os.Started) (H : Type) (enc : TypeId × Value → H) :
    ReturnsInHanded {} Try.checked os 3 .any (Rows.graphOrdersSpec.pre6 enc Try.prog Try.f3 Rows.graphOrdersRow.domain false) (Rows.graphOrdersSpec.post enc Try.prog Try.f3 false true false false) := by
  refine returnsInHanded_of_change_sized (C := Try.checked) own started (by kernel_rfl) Try.func3
    (ChangeSpec.witness6 (enc := enc) (C := Try.checked) false ⟨#[], #[.int .i64 0, .slice none 0 0], []⟩ 8 (by kernel_rfl) (by kernel_rfl) (by kernel_rfl) (by kernel_rfl)) ?_
  intro W base args ds gs before hval0 hW _ hsz0 _
  have hsz : (DataW.weightsEach Try.prog (Try.f3.params.toList ++ Rows.graphOrdersSpec.plain.varTypes Try.prog) (ds ++ gs)).all (· ≤ reachBytes) = true := hsz0
  have hval : ∀ (j : Nat) t v, Try.f3.params[j]? = some t → args[j]? = some v → Value.okWide Try.prog W .any base t v := hval0
  have hW' := hW
  obtain ⟨p, q, hA0, hV, rfl, _, _⟩ := hW
  have hA : DataW.TrodAll enc Try.prog W 0 (fun _ => true) true Try.f3.params.toList args.toList ds p := hA0
  rw [Try.params3] at hA hval hsz
  obtain ⟨v0, v1, d0, d1, p0, p1, rfl, rfl, rfl, h0, h1⟩ := trodAll_two hA
  obtain ⟨rfl, rfl⟩ := trodVars_none hV
  simp only [List.append_nil] at hW'
  obtain ⟨x0, rfl, rfl, rfl, wx0⟩ := open_int Try.underlying3 (hval 0 3 v0 rfl rfl) h0
  have hlt1 : ∀ x ∈ p1, x.block < W.heap.size := fun x hx => hW'.lt x (by simp [hx])
  have h1k := h1
  obtain ⟨A1, L1, c1, rfl, lc1, cm1, B1⟩ := open_lists Try.underlying22 Try.underlying26 Try.underlying3 (by kernel_rfl) (by kernel_rfl) (by kernel_rfl) (by kernel_rfl) (hval 1 22 v1 rfl rfl) h1 (fun k hk => by
    have := List.all_eq_true.1 hsz _ (DataW.weights_mem_each (j := 1) (t := 22) rfl rfl k hk)
    simpa using this)
  refine (graphorders_walk x0 A1 L1 c1 W (bounds_i64 wx0).1 (bounds_i64 wx0).2 lc1 cm1 B1).mono fun e W' ⟨he, hb⟩ => ?_
  subst he
  exact ⟨_, rfl, _, _, _, [], _, [], hW', trodAll_mk1 (shut_bool Try.underlying4 _), trodAll_mk2 (shut_int Try.underlying3 wx0) (Below.trod laidOut (by kernel_rfl) (of_decide_eq_true (by kernel_rfl)) h1k hb hlt1), rfl, hb.frame _, fun h => by cases h⟩

theorem graphorders_holds : Rows.GraphOrdersSaid :=
  OpenClaim.holds_of_wide 3 Try.f3 rfl rfl rfl rfl rfl rfl rfl ⟨rfl, rfl, rfl, rfl, rfl⟩ rfl rfl rfl rfl rfl (by kernel_rfl) Try.func3 (by kernel_rfl)
    (of_decide_eq_true (by kernel_rfl)) (by unfold Func.isWrapper; first | (rw [if_pos (by decide +kernel)]; kernel_rfl) | (rw [if_neg (by decide +kernel)]; exact ⟨rfl, rfl⟩))
    (fun os started H enc _ => graphorders_lifted os started H enc)
end Go.Proofs.Ytbacphifmbjooaa
