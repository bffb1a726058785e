/- The statement GraphBoth: who needs one of two lists needs one of the one or of the other. Conditions: none. -/
import Derived.Test.YtbacphifmbjooaaGrB
namespace Go.Proofs.Ytbacphifmbjooaa
open Go.ChangeShapes Go.WideShapes Go.ChangeAt Go.RowKit

set_option maxHeartbeats 4000000 in
set_option maxRecDepth 100000 in
theorem graphboth_walk (x : Int) (A : Option Addr) (L : List (List Int)) (c : Nat) (BA : Option Addr) (a : List Int) (ca : Nat) (BB : Option Addr) (b : List Int) (cb : Nat) (w : World) (hlo : -9223372036854775808 ≤ x) (hhi : x ≤ 9223372036854775807) (_hc : L.length ≤ c) (hl : L.length ≤ 5864062014805) (hL : LL w A L)
    (_h1 : a.length ≤ ca) (_h2 : ca ≤ 17592186044416) (ha : Is w BA a) (_h3 : ∀ z ∈ a, -9223372036854775808 ≤ z ∧ z ≤ 9223372036854775807) (han : BA = none → ca = 0)
    (_h4 : b.length ≤ cb) (_h5 : cb ≤ 17592186044416) (hb : Is w BB b) (_h6 : ∀ z ∈ b, -9223372036854775808 ≤ z ∧ z ≤ 9223372036854775807) (hbn : BB = none → cb = 0) :
    Calls Try.prog 6 #[.int .i64 x, .slice A L.length c, .slice BA a.length ca, .slice BB b.length cb] w fun e w' => e = .returned (.bool true) ∧ Below w.heap.size w w' := by
  obtain ⟨n, hn, hp⟩ := place_nat x 40 hlo hhi (by decide) (by decide)
  have hp' : Calls Try.prog 19 #[.int .i64 x, .int .i64 40] w fun e w' => e = .returned (.int .i64 (n : Int)) ∧ w = w' := hp w
  have cf := few_any (n : Int) A L c w hL
  have caw := awake_any w
  clear hp
  cases hf : fewB (n : Int) L with
  | true =>
    by_cases ha5 : a.length ≤ 50
    · by_cases hb5 : b.length ≤ 50
      · exact graphboth_go x n A L c BA a ca BB b cb w hp' hn hf hl hL ha5 hb5 ha han hb hbn
      · rw [hf] at cf
        have haz : ¬ (50 : Int) < (a.length : Int) := by omega
        have hbz : (50 : Int) < (b.length : Int) := by omega
        clear hf hL ha hb han hbn
        go_enter Try.func6, Try.ntmps6
        go_wp2_with fail
        (with_reducible refine hp'.mono ?_)
        rintro e w0 ⟨rfl, rfl⟩
        clear hp'
        go_wp2_with fail
        (with_reducible refine cf.mono ?_)
        rintro e w1 ⟨rfl, rfl⟩
        clear cf
        go_wp2_with fail
        (with_reducible refine caw.mono ?_)
        rintro e w2 ⟨rfl, hb2⟩
        clear caw
        go_wp2_with fail
        go_ret
        exact ⟨rfl, hb2⟩
    · rw [hf] at cf
      have haz : (50 : Int) < (a.length : Int) := by omega
      clear hf hL ha hb han hbn
      go_enter Try.func6, Try.ntmps6
      go_wp2_with fail
      (with_reducible refine hp'.mono ?_)
      rintro e w0 ⟨rfl, rfl⟩
      clear hp'
      go_wp2_with fail
      (with_reducible refine cf.mono ?_)
      rintro e w1 ⟨rfl, rfl⟩
      clear cf
      go_wp2_with fail
      (with_reducible refine caw.mono ?_)
      rintro e w2 ⟨rfl, hb2⟩
      clear caw
      go_wp2_with fail
      go_ret
      exact ⟨rfl, hb2⟩
  | false =>
    rw [hf] at cf
    clear hf hL ha hb han hbn
    go_enter Try.func6, Try.ntmps6
    go_wp2_with fail
    (with_reducible refine hp'.mono ?_)
    rintro e w0 ⟨rfl, rfl⟩
    clear hp'
    go_wp2_with fail
    (with_reducible refine cf.mono ?_)
    rintro e w1 ⟨rfl, rfl⟩
    clear cf
    go_wp2_with fail
    (with_reducible refine caw.mono ?_)
    rintro e w2 ⟨rfl, hb2⟩
    clear caw
    go_wp2_with fail
    go_ret
    exact ⟨rfl, hb2⟩
set_option maxRecDepth 100000 in
theorem graphboth_lifted (os : Os) (started : os.Started) (H : Type) (enc : TypeId × Value → H) :
    ReturnsInHanded {} Try.checked os 6 .any (Rows.graphBothSpec.pre6 enc Try.prog Try.f6 Rows.graphBothRow.domain false) (Rows.graphBothSpec.post enc Try.prog Try.f6 false true false false) := by
  refine returnsInHanded_of_change_sized (C := Try.checked) own started (by kernel_rfl) Try.func6
    (ChangeSpec.witness6 (enc := enc) (C := Try.checked) false ⟨#[], #[.int .i64 0, .slice none 0 0, .slice none 0 0, .slice none 0 0], []⟩ 8 (by kernel_rfl) (by kernel_rfl) (by kernel_rfl) (by kernel_rfl)) ?_
  intro W base args ds gs before hval0 hW _ hsz0 _
  have hsz : (DataW.weightsEach Try.prog (Try.f6.params.toList ++ Rows.graphBothSpec.plain.varTypes Try.prog) (ds ++ gs)).all (· ≤ reachBytes) = true := hsz0
  have hval : ∀ (j : Nat) t v, Try.f6.params[j]? = some t → args[j]? = some v → Value.okWide Try.prog W .any base t v := hval0
  have hW' := hW
  obtain ⟨p, q, hA0, hV, rfl, _, _⟩ := hW
  have hA : DataW.TrodAll enc Try.prog W 0 (fun _ => true) true Try.f6.params.toList args.toList ds p := hA0
  rw [Try.params6] at hA hval hsz
  obtain ⟨v0, v1, v2, v3, d0, d1, d2, d3, p0, p1, p2, p3, rfl, rfl, rfl, h0, h1, h2, h3⟩ := trodAll_four hA
  obtain ⟨rfl, rfl⟩ := trodVars_none hV
  simp only [List.append_nil] at hW'
  obtain ⟨x0, rfl, rfl, rfl, wx0⟩ := open_int Try.underlying3 (hval 0 3 v0 rfl rfl) h0
  have hlt1 : ∀ x ∈ p1, x.block < W.heap.size := fun x hx => hW'.lt x (by simp [hx])
  have h1k := h1
  obtain ⟨A1, L1, c1, rfl, lc1, cm1, B1⟩ := open_lists Try.underlying22 Try.underlying26 Try.underlying3 (by kernel_rfl) (by kernel_rfl) (by kernel_rfl) (by kernel_rfl) (hval 1 22 v1 rfl rfl) h1 (fun k hk => by
    have := List.all_eq_true.1 hsz _ (DataW.weights_mem_each (j := 1) (t := 22) rfl rfl k hk)
    simpa using this)
  have hlt2 : ∀ x ∈ p2, x.block < W.heap.size := fun x hx => hW'.lt x (by simp [hx])
  have h2k := h2
  obtain ⟨A2, L2, c2, rfl, lc2, cm2, B2, N2, Q2⟩ := open_nums Try.underlying26 Try.underlying3 (by kernel_rfl) (hval 2 26 v2 rfl rfl) h2 (fun elems spare e => by
    subst e
    have := sized_slice hsz (j := 2) (t := 26) (e := 3) rfl rfl Try.underlying26
    rwa [show Try.prog.bytesOf 3 = 8 by kernel_rfl] at this)
  have hlt3 : ∀ x ∈ p3, x.block < W.heap.size := fun x hx => hW'.lt x (by simp [hx])
  have h3k := h3
  obtain ⟨A3, L3, c3, rfl, lc3, cm3, B3, N3, Q3⟩ := open_nums Try.underlying26 Try.underlying3 (by kernel_rfl) (hval 3 26 v3 rfl rfl) h3 (fun elems spare e => by
    subst e
    have := sized_slice hsz (j := 3) (t := 26) (e := 3) rfl rfl Try.underlying26
    rwa [show Try.prog.bytesOf 3 = 8 by kernel_rfl] at this)
  refine (graphboth_walk x0 A1 L1 c1 A2 L2 c2 A3 L3 c3 W (bounds_i64 wx0).1 (bounds_i64 wx0).2 lc1 cm1 B1 lc2 cm2 B2 N2 Q2 lc3 cm3 B3 N3 Q3).mono fun e W' ⟨he, hb⟩ => ?_
  subst he
  exact ⟨_, rfl, _, _, _, [], _, [], hW', trodAll_mk1 (shut_bool Try.underlying4 _), trodAll_mk4 (shut_int Try.underlying3 wx0) (Below.trod laidOut (by kernel_rfl) (of_decide_eq_true (by kernel_rfl)) h1k hb hlt1) (Below.trod laidOut (by kernel_rfl) (of_decide_eq_true (by kernel_rfl)) h2k hb hlt2) (Below.trod laidOut (by kernel_rfl) (of_decide_eq_true (by kernel_rfl)) h3k hb hlt3), rfl, hb.frame _, fun h => by cases h⟩

theorem graphboth_holds : Rows.GraphBothSaid :=
  OpenClaim.holds_of_wide 6 Try.f6 rfl rfl rfl rfl rfl rfl rfl ⟨rfl, rfl, rfl, rfl, rfl⟩ rfl rfl rfl rfl rfl (by kernel_rfl) Try.func6 (by kernel_rfl)
    (of_decide_eq_true (by kernel_rfl)) (by unfold Func.isWrapper; first | (rw [if_pos (by decide +kernel)]; kernel_rfl) | (rw [if_neg (by decide +kernel)]; exact ⟨rfl, rfl⟩))
    (fun os started H enc _ => graphboth_lifted os started H enc)
end Go.Proofs.Ytbacphifmbjooaa
