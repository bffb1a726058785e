/- The statement ValueAsserts: any box, of a value or of something else: what it is; asserted to be a number, a truth, a text: that, or a panic that says what was wanted and what it is. Conditions: none but what the card ties (the library's tables hold what their texts lay). -/
import Derived.Test.YtfcigknalnmhcaaDoorVFrame
import Derived.Test.YtfcigknalnmhcaaDoorVRound
namespace Go.Proofs.YtfcigknalnmhcaaDoor
open Go.ChangeShapes Go.WideShapes Go.ChangeAt Go.RowKit

/-- How many rounds are still to come. -/
def leftM (p : Value) (w : World) : Nat := match p with
  | .pointer (some a) => (match w.cell? a with
    | some (.int _ z) => (4 - z).toNat
    | _ => 0)
  | _ => 0
/-- What holds at each round's head. -/
def ARel (w : World) (X V : Nat) (x : Value) (K m : Int) (s : ByteArray) (T : Nat) (t : Int) (wr : World) : Prop :=
  wr.cell? ⟨T, 0, none⟩ = some (.int .i64 t) ∧ 1 ≤ t ∧ t ≤ 4 ∧ wr.cell? ⟨X, 0, none⟩ = some x ∧ Three wr V (.int .i64 K) (.int .i64 m) (.string s) ∧ wr.frozen? ⟨T, 0, none⟩ = false ∧ Below w.heap.size w wr ∧ w.heap.size ≤ T
def kd (b : Bool) (K : Int) : Int := if b = true then K else -1

/-- What is known of the box, whatever it is. -/
structure Known (x : Value) (K m : Int) (t : ByteArray) (b : Bool) : Prop where
  unbox : ∀ w, Tabs w → Calls Tryd.prog 18 #[x] w fun e w' => e = .returned (.tuple #[V3 K m t, .bool b]) ∧ Below w.heap.size w w'
  kind : ∀ w, Tabs w → Calls Tryd.prog 19 #[x] w fun e w' => e = .returned (.int .i64 (kd b K)) ∧ Below w.heap.size w w'
  round : ∀ w T X V G t', (t' = 1 ∨ t' = 2 ∨ t' = 3) → Caps w T X V G t' x K m t → Tabs w →
    (b = true ∧ K = t' ∧ Calls Tryd.prog 23 #[Clo T X V G] w (OkEnd w G)) ∨ (¬ (b = true ∧ K = t') ∧ Calls Tryd.prog 23 #[Clo T X V G] w (FellEnd w t' (kd b K)))
theorem known {x : Value} {K m : Int} {t : ByteArray} {b : Bool} (h : (b = true ∧ Is x K m t) ∨ (b = false ∧ IsNot x ∧ K = 0 ∧ m = 0 ∧ t = ⟨#[]⟩)) : Known x K m t b := by
  rcases h with ⟨rfl, h⟩ | ⟨rfl, h, rfl, rfl, rfl⟩
  · refine ⟨fun w hT => unbox_yes x K m t h w hT, fun w hT => kind_yes x K m t h w hT, fun w T X V G t' ht hC hT => ?_⟩
    rcases round_yes h w T X V G t' ht hC hT with ⟨h1, h2⟩ | ⟨h1, h2⟩
    · exact .inl ⟨rfl, h1, h2⟩
    · exact .inr ⟨fun hh => h1 hh.2, h2⟩
  · exact ⟨fun w hT => unbox_no x h w hT, fun w hT => kind_no x h w hT, fun w T X V G t' ht hC hT => .inr ⟨(fun hh => by cases hh.1), round_no h w T X V G t' ht 0 0 ⟨#[]⟩ hC hT⟩⟩

theorem Caps.alloc {w : World} {T X V G : Nat} {t : Int} {x : Value} {K m : Int} {s : ByteArray} (h : Caps w T X V G t x K m s) (o : Obj) : Caps (w.alloc o) T X V G t x K m s := h.later (below_alloc w o)
theorem after_ok {w w5 : World} {T X V G : Nat} {t : Int} {x : Value} {K m : Int} {s : ByteArray} (h : Caps w T X V G t x K m s) (hb : Below w.heap.size (w.setCell ⟨G, 0, none⟩ (.bool true)) w5) (hT : ¬ G = T) (hX : ¬ G = X) (hV : ¬ G = V) :
    Caps w5 T X V G t x K m s ∧ w5.cell? ⟨G, 0, none⟩ = some (.bool true) := by
  obtain ⟨h1, h2, h3, ⟨b, h4⟩, h5⟩ := h
  have hg : w5.cell? ⟨G, 0, none⟩ = some (.bool true) := (hb.cell (p := ⟨G, 0, none⟩) (lt_of_cell h4)).trans (World.cell?_setCell_same' _ _ _ (by rw [h4]; rfl))
  have k : ∀ (B o : Nat) (v : Value), ¬ G = B → w.cell? ⟨B, o, none⟩ = some v → w5.cell? ⟨B, o, none⟩ = some v := fun B o v hn hc => (hb.cell (p := ⟨B, o, none⟩) (lt_of_cell hc)).trans ((other_block hn).trans hc)
  have f : ∀ (B o : Nat) (v : Value), w.cell? ⟨B, o, none⟩ = some v → w.frozen? ⟨B, o, none⟩ = false → w5.frozen? ⟨B, o, none⟩ = false := fun B o v hc hf => (hb.frozen (p := ⟨B, o, none⟩) (lt_of_cell hc)).trans (by simpa using hf)
  refine ⟨⟨k _ _ _ hT h1, k _ _ _ hX h2, ⟨?_, k _ _ _ hV h3.c0, k _ _ _ hV h3.c1, k _ _ _ hV h3.c2, f _ _ _ h3.c0 h3.f0, f _ _ _ h3.c1 h3.f1, f _ _ _ h3.c2 h3.f2⟩, ⟨true, hg⟩, f _ _ _ h4 h5⟩, hg⟩
  exact Nat.lt_of_lt_of_le h3.lt (by have := hb.size; simp only [World.setCell, Array.size_modify] at this; exact this)
theorem next_left {w wr : World} {X V T : Nat} {x : Value} {K m t : Int} {s : ByteArray} (h : ARel w X V x K m s T t wr) : leftM (.pointer (some ⟨T, 0, none⟩)) wr = (4 - t).toNat := by simp only [leftM, h.1]
theorem next_rel {w w6 : World} {T X V G : Nat} {t : Int} {x : Value} {K m : Int} {s : ByteArray} (h : Caps w6 T X V G t x K m s) (hb : Below w.heap.size w w6) (h1 : 1 ≤ t) (h4 : t < 4) {T' : Nat} (hT' : w6.heap.size = T') :
    ARel w X V x K m s T' (t + 1) (w6.alloc (.cells #[.int .i64 (t + 1)] 3)) := hT' ▸
  ⟨by rw [cells_of_alloc]; rfl, by omega, by omega, (World.cell?_alloc_past _ _ _ (lt_of_cell h.cx)).trans h.cx, h.v.alloc _, by simp, hb.alloc hb.size _, hb.size⟩

set_option maxHeartbeats 4000000 in
set_option maxRecDepth 100000 in
theorem asserts_yes (k n : Int) (s : ByteArray) (w : World) (h0 : -9223372036854775808 ≤ k) (h1 : k ≤ 9223372036854775807) (hlen : ¬ (5000 : Int) < (s.size : Int)) (hE : Env w) :
    Calls Tryd.prog 5 #[.int .i64 k, .int .i64 n, .string s] w fun e w' => e = .returned (.bool true) ∧ Below w.heap.size w w' := by
  have cO := odd_any k n s w h0 h1
  have cP := fun w => plain_any k n s w h0 h1
  generalize (placeZ k 11).toNat = j at cO cP
  have hs5 : s.size ≤ 5000 := by omega
  go_enter Tryd.func5, Tryd.ntmps5
  go_wp2_with fail
  refine cO.mono ?_
  rintro e w1 ⟨⟨x, rfl, hodd⟩, hb1⟩
  have hif := hodd.iface
  clear cO
  have hba := hb1.alloc hb1.size (.cells #[x] 20)
  have kx : ∀ wz, Below (w1.alloc (.cells #[x] 20)).heap.size (w1.alloc (.cells #[x] 20)) wz → wz.cell? ⟨w1.heap.size, 0, none⟩ = some x := fun wz h => by
    rw [h.cell (p := ⟨w1.heap.size, 0, none⟩) (by simp), cells_of_alloc]; rfl
  rcases hif with rfl | ⟨u0, y0, rfl⟩
  all_goals
    go_wp2_with fail
    refine (cP _).mono ?_
    rintro e w2 ⟨⟨K, m, t, b, rfl, hpl⟩, hb2⟩
    have hkn := known (odd_plain hodd hpl hs5)
    clear hpl hodd cP
    have hx2 := kx _ hb2
    have hl2 := lt_of_cell hx2
    have hbb := (below_to hba hb2).alloc (below_to hba hb2).size (.cells #[.int .i64 K, .int .i64 m, .string t] 23)
    have v2 := three_new w2 (.int .i64 K) (.int .i64 m) (.string t) 23
    have hxb : (w2.alloc (.cells #[.int .i64 K, .int .i64 m, .string t] 23)).cell? ⟨w1.heap.size, 0, none⟩ = _ := (World.cell?_alloc_past _ _ _ hl2).trans hx2
    obtain ⟨wb, hwb⟩ : ∃ wb, w2.alloc (.cells #[.int .i64 K, .int .i64 m, .string t] 23) = wb := ⟨_, rfl⟩
    rw [hwb] at hbb v2 hxb
    have hEb := hE.later hbb
    have cU := hkn.unbox wb hEb.tabs
    clear kx hx2 hb2
    go_wp2_with fail
    refine cU.mono ?_
    rintro e w3 ⟨rfl, hb3⟩
    have hx3 := (hb3.cell (p := ⟨w1.heap.size, 0, none⟩) (lt_of_cell hxb)).trans hxb
    have hl3 := lt_of_cell hx3
    have v3 := (v2.later hb3).alloc (.cells #[.int .i64 K, .int .i64 m, .string t] 23)
    have u3 := three_new w3 (.int .i64 K) (.int .i64 m) (.string t) 23
    have hbc := (below_to hbb hb3).alloc (below_to hbb hb3).size (.cells #[.int .i64 K, .int .i64 m, .string t] 23)
    have hxc : (w3.alloc (.cells #[.int .i64 K, .int .i64 m, .string t] 23)).cell? ⟨w1.heap.size, 0, none⟩ = _ := (World.cell?_alloc_past _ _ _ hl3).trans hx3
    obtain ⟨wc, hwc⟩ : ∃ wc, w3.alloc (.cells #[.int .i64 K, .int .i64 m, .string t] 23) = wc := ⟨_, rfl⟩
    rw [hwc] at hbc v3 u3 hxc
    clear hwb v2 hxb hb3 hx3 cU hEb
    have hEc := hE.later hbc
    have cK := hkn.kind wc hEc.tabs
    have hne := fun w => neq_val K m t K m t w
    have heq := fun w => eqlIn_val K m t K m t w
    simp only [sameV_refl] at hne heq
    have HV := Lib.hid v3
    have HX := Lib.hid hxc
    obtain ⟨-, a0, a1, a2, -, -, -⟩ := u3
    obtain ⟨-, r0, r1, r2, -, -, -⟩ := v3
    cases b
    all_goals
      simp only [kd, Bool.false_eq_true, if_false, if_true] at cK
      go_wp2_with fail
      refine cK.mono ?_
      rintro e w4 ⟨rfl, hb4⟩
      clear hwc cK a0 a1 a2 r0 r1 r2 hxc
      have hx4 := (hb4.cell (p := ⟨w1.heap.size, 0, none⟩) (lt_of_cell HX.out)).trans HX.out
      have v4 := HV.out.later hb4
      have hbd := below_to hbc hb4
      clear hb4 hbc HX HV
      have h0' : ARel w w1.heap.size w2.heap.size _ K m t w4.heap.size 1 (w4.alloc (.cells #[.int .i64 1] 3)) :=
        ⟨by rw [cells_of_alloc]; rfl, by decide, by decide, (World.cell?_alloc_past _ _ _ (lt_of_cell hx4)).trans hx4, v4.alloc _, by simp, hbd.alloc hbd.size _, hbd.size⟩
      have H0 := Lib.hid h0'
      have HKN := Lib.hid hkn
      have hmf : ∀ (fn : Fn) (first cap : Array Value) (w : World), (Instr.makeFunc fn first cap).run Tryd.prog w = .ok (.func fn first cap) w := fun _ _ _ _ => rfl
      clear h0' hx4 v4 hbd hbb hEc hba hb1 hne heq hkn
      go_wp2_with fail
      go_loopw [13] (fun p wr => ∃ T tt, p = .pointer (some ⟨T, 0, none⟩) ∧ ARel w w1.heap.size w2.heap.size _ K m t T tt wr) (fun p wr => leftM p wr)
      case atStart => exact ⟨_, _, rfl, H0.out⟩
      case round =>
        obtain ⟨T, tt, rfl, hTc, ht1, ht4, hxr, hvr, hTf, hbr, hwT⟩ := hrel
        have hTl := lt_of_cell hTc
        have hsr := hbr.size
        clear H0
        by_cases hlt : tt < 4
        · have hC : Caps (wr.alloc (.cells #[.bool false] 4)) T w1.heap.size w2.heap.size wr.heap.size tt _ K m t :=
            ⟨(World.cell?_alloc_past _ _ _ hTl).trans hTc, (World.cell?_alloc_past _ _ _ (lt_of_cell hxr)).trans hxr, hvr.alloc _, ⟨false, by rw [cells_of_alloc]; rfl⟩, by simp⟩
          have hbg := hbr.alloc hbr.size (.cells #[.bool false] 4)
          have hEg := hE.later hbg
          have hmeas : leftM (.pointer (some ⟨T, 0, none⟩)) wr = (4 - tt).toNat := by simp only [leftM, hTc]
          have HM := Lib.hid hmeas
          have HC := Lib.hid hC
          have h3 : tt ≤ 3 := by omega
          have hXl := lt_of_cell hxr
          have hVl := hvr.lt
          have hd := HKN.out.round _ T w1.heap.size w2.heap.size wr.heap.size tt (by omega) hC hEg.tabs
          clear hC hmeas hEg hxr hvr hTf
          rcases hd with ⟨hbt, hK, hc⟩ | ⟨hnot, hc⟩
          · all_goals try (exfalso; cases hbt; done)
            all_goals
              obtain rfl := hK
              go_wp2_with fail
              refine hc.mono ?_
              rintro e w5 ⟨rfl, hb5⟩
              obtain ⟨hC5, hg5⟩ := after_ok HC.out hb5 (by omega) (by omega) (by omega)
              have hb6 : Below w.heap.size w w5 := (hbg.setCell (p := ⟨wr.heap.size, 0, none⟩) hsr _).trans (hb5.mono hbg.size)
              have hC6 := hC5.alloc (.cells #[.int .i64 0, .int .i64 0] 38)
              have hg6 : (w5.alloc (.cells #[.int .i64 0, .int .i64 0] 38)).cell? ⟨wr.heap.size, 0, none⟩ = some (.bool true) := (World.cell?_alloc_past _ _ _ (lt_of_cell hg5)).trans hg5
              have hb7 := hb6.alloc hb6.size (.cells #[.int .i64 0, .int .i64 0] 38)
              have HC6 := Lib.hid hC6
              have ct6 := hC6.ct
              have ct5 := hC5.ct
              have hT5 := lt_of_cell ct5
              clear hC5 hg5 hb6 hb5 hC6 hc
              go_wp2
              go_roundw
              case rel => exact ⟨_, _, rfl, next_rel HC6.out hb7 (by omega) (by omega) (by simp)⟩
              case measure =>
                rw [HM.out]
                refine Nat.lt_of_le_of_lt (Nat.le_of_eq (next_left (next_rel HC6.out hb7 (by omega) (by omega) (by simp)))) (by omega)
          · all_goals
              simp only [kd, Bool.false_eq_true, ↓reduceIte] at hc
              go_wp2_with fail
              refine hc.mono ?_
              rintro e w5 ⟨rfl, hb5⟩
              have hC5 := HC.out.later hb5
              have hb6 : Below w.heap.size w w5 := below_to hbg hb5
              first
                | (have hKn : ¬ K = tt := fun e => hnot ⟨by trivial, e⟩
                   have hKt : (K == tt) = false := beq_eq_false_iff_ne.mpr hKn
                   have hC6 := hC5.alloc (.cells #[.int .i64 tt, .int .i64 K] 38)
                   have hb7 := hb6.alloc hb6.size (.cells #[.int .i64 tt, .int .i64 K] 38)
                   have q0 : (w5.alloc (.cells #[.int .i64 tt, .int .i64 K] 38)).cell? ⟨w5.heap.size, 0, none⟩ = some (.int .i64 tt) := by rw [cells_of_alloc]; rfl
                   have q1 : (w5.alloc (.cells #[.int .i64 tt, .int .i64 K] 38)).cell? ⟨w5.heap.size, 1, none⟩ = some (.int .i64 K) := by rw [cells_of_alloc]; rfl)
                | (have hC6 := hC5.alloc (.cells #[.int .i64 tt, .int .i64 (-1)] 38)
                   have hb7 := hb6.alloc hb6.size (.cells #[.int .i64 tt, .int .i64 (-1)] 38)
                   have q0 : (w5.alloc (.cells #[.int .i64 tt, .int .i64 (-1)] 38)).cell? ⟨w5.heap.size, 0, none⟩ = some (.int .i64 tt) := by rw [cells_of_alloc]; rfl
                   have q1 : (w5.alloc (.cells #[.int .i64 tt, .int .i64 (-1)] 38)).cell? ⟨w5.heap.size, 1, none⟩ = some (.int .i64 (-1)) := by rw [cells_of_alloc]; rfl)
              have HC6 := Lib.hid hC6
              have ct6 := hC6.ct
              have ct5 := hC5.ct
              have hT5 := lt_of_cell ct5
              clear hC5 hb6 hb5 hC6 hc
              go_wp2
              go_roundw
              case rel => exact ⟨_, _, rfl, next_rel HC6.out hb7 (by omega) (by omega) (by simp)⟩
              case measure =>
                rw [HM.out]
                refine Nat.lt_of_le_of_lt (Nat.le_of_eq (next_left (next_rel HC6.out hb7 (by omega) (by omega) (by simp)))) (by omega)
        · obtain rfl : tt = 4 := by omega
          have hEr := hE.later hbr
          go_wp2_with fail
          refine (awake_any _ hEr).mono ?_
          rintro e w5 ⟨rfl, hb5⟩
          go_wp2
          go_ret
          exact ⟨rfl, below_to hbr hb5⟩
theorem valueasserts_walk (k n : Int) (s : ByteArray) (w : World) (h0 : -9223372036854775808 ≤ k) (h1 : k ≤ 9223372036854775807) (_ : -9223372036854775808 ≤ n) (_ : n ≤ 9223372036854775807) (_ : s.size ≤ 9223372036854775807) (hE : Env w) :
    Calls Tryd.prog 5 #[.int .i64 k, .int .i64 n, .string s] w fun e w' => e = .returned (.bool true) ∧ Below w.heap.size w w' := by
  by_cases hlen : (5000 : Int) < (s.size : Int)
  · have cA := awake_any w hE
    clear hE
    go_enter Tryd.func5, Tryd.ntmps5
    go_wp2_with fail
    refine cA.mono ?_
    rintro e w1 ⟨rfl, hb1⟩
    clear cA
    go_wp2
    go_ret
    exact ⟨rfl, hb1⟩
  · exact asserts_yes k n s w h0 h1 hlen hE
set_option maxRecDepth 1000000 in
theorem valueasserts_lifted (os : Os) (started : os.Started) (H : Type) (enc : TypeId × Value → H) :
    ReturnsInHanded {} Tryd.checked os 5 .any (fun w args => (Rows.valueAssertsSpec.pre enc Tryd.prog Tryd.f5 [] false w args ∧ laidMetH Tryd.prog tabsLaid w) ∧ sizedMet enc Tryd.prog Tryd.f5 (OpenSpec.ofChange Rows.valueAssertsSpec) false w args)
      (Rows.valueAssertsSpec.post enc Tryd.prog Tryd.f5 false true false false) := by
  refine returnsInHanded_of_change_and (C := Tryd.checked) (X := fun w _ => laidMetH Tryd.prog tabsLaid w) (fun _ _ _ hh h => h.of_heap hh) own started (by kernel_rfl) Tryd.func5
    (ChangeSpec.witness_shaped (enc := enc) (C := Tryd.checked) (os := os) (X := fun w _ => laidMetH Tryd.prog tabsLaid w) false (World.laidAll Tryd.prog os tabsLaid) #[.int .i64 0, .int .i64 0, .string ⟨#[]⟩] 8 (World.laidAll_os _ _ _)
      (World.shaped_of_ZipB (by kernel_rfl) (by kernel_rfl)) (by kernel_rfl) (by kernel_rfl) (by kernel_rfl) (start_met os _)) ?_
  intro W base args ds gs before hval0 hW _ _ hL hsz0
  have hsz := hsz0
  have hval : ∀ (j : Nat) t v, Tryd.f5.params[j]? = some t → args[j]? = some v → Value.okWide Tryd.prog W .any base t v := hval0
  have hW' := hW
  obtain ⟨p, q, hA0, hV, rfl, _, _⟩ := hW
  have hA : DataW.TrodAll enc Tryd.prog W 0 (fun _ => true) true Tryd.f5.params.toList args.toList ds p := hA0
  rw [Tryd.params5] at hA hval
  obtain ⟨v0, v1, v2, d0, d1, d2, p0, p1, p2, rfl, rfl, rfl, h0, h1, h2⟩ := trodAll_three hA
  obtain ⟨rfl, rfl⟩ := trodVars_none hV
  obtain ⟨x0, rfl, rfl, rfl, wx0⟩ := open_int Tryd.underlying3 (hval 0 3 v0 rfl rfl) h0
  obtain ⟨x1, rfl, rfl, rfl, wx1⟩ := open_int Tryd.underlying2 (hval 1 2 v1 rfl rfl) h1
  obtain ⟨x2, rfl, rfl, rfl, wx2⟩ := Go.ChangeMaps.open_string Tryd.underlying9 (hval 2 9 v2 rfl rfl) h2
  have rx2 : x2.size ≤ 9223372036854775807 := by have := wx2; unfold maxLen at this; omega
  simp only [List.append_nil] at hW'
  refine (valueasserts_walk x0 x1 x2 W (bounds_i64 wx0).1 (bounds_i64 wx0).2 (bounds_i64 wx1).1 (bounds_i64 wx1).2 rx2 (env_of_laid hL)).mono fun e W' ⟨he, hb⟩ => ?_
  subst he
  exact ⟨_, rfl, _, _, _, [], _, [], hW', trodAll_mk1 (shut_bool Tryd.underlying4 _), trodAll_mk3 (shut_int Tryd.underlying3 wx0) (shut_int Tryd.underlying2 wx1) (Go.ChangeMaps.shut_string Tryd.underlying9 wx2), rfl, hb.frame _, fun h => by cases h⟩

theorem valueasserts_holds : Rows.ValueAssertsSaid :=
  OpenClaim.holds_of_wide 5 Tryd.f5 rfl rfl rfl rfl rfl rfl rfl ⟨rfl, rfl, rfl, rfl, rfl⟩ rfl rfl rfl rfl rfl (by kernel_rfl) Tryd.func5 (by kernel_rfl)
    (of_decide_eq_true (by kernel_rfl)) (by unfold Func.isWrapper; first | (rw [if_pos (by decide +kernel)]; kernel_rfl) | (rw [if_neg (by decide +kernel)]; exact ⟨rfl, rfl⟩))
    (fun os started H enc _ => valueasserts_lifted os started H enc)

theorem valueasserts_card : Rows.ValueAssertsCardSaid :=
  Claim7.holds_tied_plain_at .later [] [.data, .data, .data, .data, .pinned] true _ true
    valueasserts_holds (fun _ h => by cases h) (by kernel_rfl) (fun _ h => by cases h) valueAsserts_row_tie rfl ⟨rfl, rfl⟩ (by kernel_rfl) rfl
    (fun f fn hf hfn => by
      obtain rfl : f = 5 := Option.some.inj ((show Tryd.prog.funcNamed "palaver/palaverlaw05.ValueAsserts" = some 5 by kernel_rfl).symm.trans hf) |>.symm
      obtain rfl : fn = Tryd.f5 := (Option.some.inj (Tryd.func5.symm.trans hfn)).symm
      exact ⟨by kernel_rfl, fun j t ht => by
        rw [Tryd.params5] at ht
        have hm : t ∈ [3, 2, 9] := by simpa using Array.mem_of_getElem? ht
        have hall : ([3, 2, 9].all fun u => !Tryd.prog.wantsStandIn u) = true := by kernel_rfl
        exact (show Tryd.prog.wantsStandIn t = false by simpa using List.all_eq_true.1 hall t hm)⟩)
    (by kernel_rfl)
end Go.Proofs.YtfcigknalnmhcaaDoor
