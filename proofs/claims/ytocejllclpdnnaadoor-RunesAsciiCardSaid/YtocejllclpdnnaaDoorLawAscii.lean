/- The statement RunesAscii: each byte below 128 is a rune by itself, one byte wide, with the class and the capital that it has by its number. Conditions: none beside the two tables of unicode/utf8, as their text lays them (the card ties them). -/
import Derived.Test.YtocejllclpdnnaaDoorFrame
import Derived.Test.YtocejllclpdnnaaDoorAt
namespace Go.Proofs.YtocejllclpdnnaaDoor
open Go.ChangeShapes Go.WideShapes Go.ChangeAt Go.RowKit Go.Lib

theorem at_one (b : UInt8) (h : b.toNat < 128) : atZ [b] 0 = some (b.toNat, 1) := by
  have : atL [b] 0 = some (decodeL [b]) := atL_zero [b] (by simp)
  rw [decodeL_ascii b [] h] at this
  simpa [atZ] using this
theorem byteOf (x : Int) (h0 : 0 ≤ x) (h1 : x < 128) : ∃ b : UInt8, ((b.toNat : Nat) : Int) = x ∧ b.toNat < 128 :=
  ⟨UInt8.ofNat x.toNat, by simp; omega, by simp; omega⟩
theorem at_one_any (b : UInt8) (x : Int) (hx : ((b.toNat : Nat) : Int) = x) (h : b.toNat < 128) (w : World) (hT : Tabs w) :
    Calls Tryd.prog 23 #[.string ⟨#[b]⟩, .int .i64 0] w fun e w' => e = .returned (.tuple #[.int .i32 x, .int .i64 1, .bool true]) ∧ Below w.heap.size w w' := by
  have c := at_any ⟨#[b]⟩ 0 w (by show 1 < _; decide) (by decide) (by decide) hT
  have e : atV (atZ (⟨#[b]⟩ : ByteArray).data.toList 0) = .tuple #[.int .i32 x, .int .i64 1, .bool true] := by
    show atV (atZ [b] 0) = _
    rw [at_one b h, ← hx]; rfl
  rw [e] at c
  exact c

/-- What the statement says of a byte's class and capital. -/
structure AsciiSays (b k u : Int) : Prop where
  cls : classZ b = k
  up : upperZ b = u

set_option maxHeartbeats 4000000 in
theorem ascii_walk (c : Int) (w : World) (h0 : 0 ≤ c) (h1 : c ≤ 255) (hT : Tabs w) :
    Calls Tryd.prog 12 #[.int .u8 c] w fun e w' => e = .returned (.bool true) ∧ Below w.heap.size w w' := by
  have hb0 : 0 ≤ c % 128 := by omega
  have hb1 : c % 128 < 128 := by omega
  obtain ⟨B, hB, hB2⟩ := byteOf (c % 128) hb0 hb1
  have hcv := run_string_of (P := Tryd.prog) (w.alloc (.cells #[.int .u8 (c % 128)] 5)) 37 9 5 w.heap.size 1 [B] 1 rfl Tryd.underlying37 Tryd.underlying5 Tryd.underlying9 (by
    intro j v hv
    rw [World.cell?, alloc_at]
    unfold Lib.byteCells at hv
    rw [List.map_cons, List.map_nil, hB] at hv
    simpa using hv)
  have hbA : Below w.heap.size w (w.alloc (.cells #[.int .u8 (c % 128)] 5)) := (Below.refl _ w).alloc (Nat.le_refl _) _
  have hAt := at_one_any B (c % 128) hB hB2 _ (hT.later hbA)
  have HAT := Lib.hid hAt
  have HBA := Lib.hid hbA
  clear hAt hB hB2 hbA
  go_enter Tryd.func12, Tryd.ntmps12
  go_wp2_with fail
  refine HAT.out.mono ?_
  rintro e w1 ⟨rfl, b1⟩
  have hb := HBA.out.trans (b1.mono HBA.out.size)
  have hT1 : Tabs w1 := hT.later hb
  have HB := Lib.hid hb
  clear HAT HBA b1 hb hcv hT
  generalize c % 128 = b at *
  clear h0 h1
  have fin : ∀ k u : Int, AsciiSays b k u → Calls Tryd.prog 27 #[.int .i32 b] w1 (fun e w' => e = .returned (.int .i64 k) ∧ w1 = w') ∧ Calls Tryd.prog 29 #[.int .i32 b] w1 (fun e w' => e = .returned (.int .i32 u) ∧ w1 = w') := by
    rintro k u ⟨rfl, rfl⟩; exact ⟨class_any b w1, upper_any b w1⟩
  have haw := awake_any w1 hT1
  have FIN := Lib.hid fin
  have HAW := Lib.hid haw
  clear fin haw hT1
  by_cases hl : 97 ≤ b ∧ b ≤ 122
  · obtain ⟨f1, f2⟩ := FIN.out 1 (b - 32) ⟨class_1 (by unfold LetterP; omega), upper_low (by unfold LowP; omega)⟩
    obtain ⟨hl1, hl2⟩ := hl
    go_wp2_with fail
    refine f1.mono ?_
    rintro e w2 ⟨rfl, rfl⟩
    go_wp2_with fail
    refine f2.mono ?_
    rintro e w2 ⟨rfl, rfl⟩
    go_wp2_with fail
    refine HAW.out.mono ?_
    rintro e w2 ⟨rfl, b2⟩
    go_wp2
    go_ret
    exact ⟨rfl, HB.out.trans (b2.mono HB.out.size)⟩
  · have hup : upperZ b = b := upper_same (by unfold LowP; omega) (by omega)
    by_cases hc : (65 ≤ b ∧ b ≤ 90) ∨ b = 95
    · obtain ⟨f1, f2⟩ := FIN.out 1 b ⟨class_1 (by unfold LetterP; omega), hup⟩
      clear hup
      go_wp2_with fail
      all_goals first
        | (exfalso; simp at *; omega)
        | (refine f1.mono ?_
           rintro e w2 ⟨rfl, rfl⟩
           go_wp2_with fail
           refine f2.mono ?_
           rintro e w2 ⟨rfl, rfl⟩
           go_wp2_with fail
           refine HAW.out.mono ?_
           rintro e w2 ⟨rfl, b2⟩
           go_wp2
           go_ret
           exact ⟨rfl, HB.out.trans (b2.mono HB.out.size)⟩)
    · by_cases hd : 48 ≤ b ∧ b ≤ 57
      · obtain ⟨f1, f2⟩ := FIN.out 2 b ⟨class_2 hd, hup⟩
        clear hup
        go_wp2_with fail
        all_goals first
          | (exfalso; simp at *; omega)
          | (refine f1.mono ?_
             rintro e w2 ⟨rfl, rfl⟩
             go_wp2_with fail
             refine f2.mono ?_
             rintro e w2 ⟨rfl, rfl⟩
             go_wp2_with fail
             refine HAW.out.mono ?_
             rintro e w2 ⟨rfl, b2⟩
             go_wp2
             go_ret
             exact ⟨rfl, HB.out.trans (b2.mono HB.out.size)⟩)
      · by_cases hs : b = 9 ∨ b = 10 ∨ b = 13 ∨ b = 32
        · obtain ⟨f1, f2⟩ := FIN.out 3 b ⟨class_3 (by unfold SpaceP; omega), hup⟩
          clear hup
          go_wp2_with fail
          all_goals first
            | (exfalso; simp at *; omega)
            | (refine f1.mono ?_
               rintro e w2 ⟨rfl, rfl⟩
               go_wp2_with fail
               refine f2.mono ?_
               rintro e w2 ⟨rfl, rfl⟩
               go_wp2_with fail
               refine HAW.out.mono ?_
               rintro e w2 ⟨rfl, b2⟩
               go_wp2
               go_ret
               exact ⟨rfl, HB.out.trans (b2.mono HB.out.size)⟩)
        · obtain ⟨f1, f2⟩ := FIN.out 0 b ⟨class_0 hd (by unfold SpaceP; omega) (by unfold LetterP; omega), hup⟩
          clear hup
          go_wp2_with fail
          all_goals first
            | (exfalso; simp at *; omega)
            | (refine f1.mono ?_
               rintro e w2 ⟨rfl, rfl⟩
               go_wp2_with fail
               refine f2.mono ?_
               rintro e w2 ⟨rfl, rfl⟩
               go_wp2_with fail
               refine HAW.out.mono ?_
               rintro e w2 ⟨rfl, b2⟩
               go_wp2
               go_ret
               exact ⟨rfl, HB.out.trans (b2.mono HB.out.size)⟩)
set_option maxRecDepth 100000 in
theorem ascii_lifted (os : Os) (started : os.Started) (H : Type) (enc : TypeId × Value → H) :
    ReturnsInHanded {} Tryd.checked os 12 .any (fun w args => (Rows.runesAsciiSpec.pre enc Tryd.prog Tryd.f12 [] false w args ∧ laidMetH Tryd.prog tabsLaid w) ∧ sizedMet enc Tryd.prog Tryd.f12 (OpenSpec.ofChange Rows.runesAsciiSpec) false w args)
      (Rows.runesAsciiSpec.post enc Tryd.prog Tryd.f12 false true false false) := by
  refine returnsInHanded_of_change_and (C := Tryd.checked) (X := fun w _ => laidMetH Tryd.prog tabsLaid w) (fun _ _ _ hh h => h.of_heap hh) own started (by kernel_rfl) Tryd.func12
    (ChangeSpec.witness_shaped (enc := enc) (C := Tryd.checked) (os := os) (X := fun w _ => laidMetH Tryd.prog tabsLaid w) false (World.laidAll Tryd.prog os tabsLaid) #[.int .u8 0] 8 (World.laidAll_os _ _ _)
      (World.shaped_of_ZipB (by kernel_rfl) (by kernel_rfl)) (by kernel_rfl) (by kernel_rfl) (by kernel_rfl) (start_met os _)) ?_
  intro W base args ds gs before hval0 hW _ _ hL _
  have hval : ∀ (j : Nat) t v, Tryd.f12.params[j]? = some t → args[j]? = some v → Value.okWide Tryd.prog W .any base t v := hval0
  have hW' := hW
  obtain ⟨p, q, hA0, hV, rfl, _, _⟩ := hW
  have hA : DataW.TrodAll enc Tryd.prog W 0 (fun _ => true) true Tryd.f12.params.toList args.toList ds p := hA0
  rw [Tryd.params12] at hA hval
  obtain ⟨v0, d0, rfl, rfl, h0⟩ := trodAll_one hA
  obtain ⟨rfl, rfl⟩ := trodVars_none hV
  obtain ⟨x0, rfl, rfl, rfl, wx0⟩ := open_int Tryd.underlying5 (hval 0 5 v0 rfl rfl) h0
  have b0 : 0 ≤ x0 ∧ x0 ≤ 255 := by simpa [Lit.wf, IntKind.min, IntKind.max, IntKind.signed, IntKind.bits] using wx0
  simp only [List.append_nil] at hW'
  refine (ascii_walk x0 W b0.1 b0.2 (tabs_of_laid hL)).mono fun e W' ⟨he, hb⟩ => ?_
  subst he
  exact ⟨_, rfl, _, _, _, [], [], [], hW', trodAll_mk1 (shut_bool Tryd.underlying4 _), trodAll_mk1 (shut_int Tryd.underlying5 wx0), rfl, hb.frame _, fun h => by cases h⟩

theorem ascii_holds : Rows.RunesAsciiSaid :=
  OpenClaim.holds_of_wide 12 Tryd.f12 rfl rfl rfl rfl rfl rfl rfl ⟨rfl, rfl, rfl, rfl, rfl⟩ rfl rfl rfl rfl rfl (by kernel_rfl) Tryd.func12 (by kernel_rfl)
    (of_decide_eq_true (by kernel_rfl)) (by unfold Func.isWrapper; first | (rw [if_pos (by decide +kernel)]; kernel_rfl) | (rw [if_neg (by decide +kernel)]; exact ⟨rfl, rfl⟩))
    (fun os started H enc _ => ascii_lifted os started H enc)

theorem ascii_card : Rows.RunesAsciiCardSaid :=
  Claim7.holds_tied_plain_at .later [] [.data, .pinned] true _ false
    ascii_holds (fun _ h => by cases h) (by kernel_rfl) (fun _ h => by cases h) runesAscii_row_tie rfl ⟨rfl, rfl⟩ (by kernel_rfl) rfl
    (fun f fn hf hfn => by
      obtain rfl : f = 12 := Option.some.inj ((show Tryd.prog.funcNamed "palaver/palaverlaw01.RunesAscii" = some 12 by kernel_rfl).symm.trans hf) |>.symm
      obtain rfl : fn = Tryd.f12 := (Option.some.inj (Tryd.func12.symm.trans hfn)).symm
      exact ⟨by kernel_rfl, fun j t ht => by
        rw [Tryd.params12] at ht
        have hm : t ∈ [5] := by simpa using Array.mem_of_getElem? ht
        have hall : ([5].all fun u => !Tryd.prog.wantsStandIn u) = true := by kernel_rfl
        exact (show Tryd.prog.wantsStandIn t = false by simpa using List.all_eq_true.1 hall t hm)⟩)
    (by kernel_rfl)
end Go.Proofs.YtocejllclpdnnaaDoor
