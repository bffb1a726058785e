/- TypesWhole. -/
import Derived.Test.YtlhofjhkiollgaaGreatDoorGR
import Derived.Test.YtlhofjhkiollgaaGreatDoorMTyAwk
import Derived.Test.YtlhofjhkiollgaaGreatDoorGB
import Derived.Deep.CutRange
import Derived.BigQuiet
namespace Go.Proofs.YtlhofjhkiollgaaGreatDoor
open Go.RowKit

theorem place_at8 (v : Int) (n : Nat) (h0 : -9223372036854775808 ≤ v) (h1 : v ≤ 9223372036854775807) (hn : 1 ≤ n) (hn1 : n ≤ 4611686018427387904) :
    ∃ k : Nat, k < n ∧ ∀ w : World, Calls Tryz.prog 28 #[.int .i64 v, .int .i64 n] w fun e w' => e = .returned (.int .i64 (k : Int)) ∧ w = w' := by
  have lo := placeZ_lo v n (by omega)
  have hi := placeZ_hi v n (by omega)
  refine ⟨(placeZ v n).toNat, by omega, fun w => ?_⟩
  have c := place_any v n w h0 h1 (by omega) (by omega)
  rwa [show (((placeZ v n).toNat : Nat) : Int) = placeZ v n by omega]
/-- The three kids: a number, a truth, a text. -/
def kOp (x : Nat) : Int := if x = 0 then 1 else if x = 1 then 3 else 2
def kNum (x : Nat) : Int := if x = 0 then 1 else 0
def kStr (x : Nat) : List UInt8 := if x = 2 then [97] else []
def kEx (x : Nat) : Ex := .mk (kOp x) (kNum x) (kStr x) []
def whE (p x y : Nat) : Ex := .mk ((7 + p : Nat) : Int) 0 [] [kEx x, kEx y]
def wantN (p x y : Nat) : Int := if p ≤ 4 then (if x = 0 ∧ y = 0 then 1 else 0) else if p ≤ 6 then (if x = y then 2 else 0) else if p ≤ 8 then (if x = y ∧ x ≠ 1 then 2 else 0) else (if x = 1 ∧ y = 1 then 2 else 0)
def ofC (e : Ex) : Except Int Int := if chkC e then typE [] [] e else .error 6
theorem ofC_eq (e : Ex) : ofC e = ofE [] [] e := by unfold ofC ofE; rw [chkC_eq]
theorem whole_all : ∀ (p : Fin 10) (x y : Fin 3), (tyN (ofC (whE p.val x.val y.val)), tyF (ofC (whE p.val x.val y.val))) = (wantN p.val x.val y.val, if wantN p.val x.val y.val = 0 then 8 else 0) := by decide +kernel
abbrev kinds : Array Value := #[.int .i64 1, .int .i64 1, .string ⟨#[]⟩, .slice none 0 0, .int .i64 3, .int .i64 0, .string ⟨#[]⟩, .slice none 0 0, .int .i64 2, .int .i64 0, .string ⟨#[97]⟩, .slice none 0 0]
theorem kinds_at (w : World) (t : TypeId) (x : Nat) (hx : x < 3) :
    (w.alloc (.cells kinds t)).cell? ⟨w.heap.size, x * 4, none⟩ = some (.int .i64 (kOp x)) ∧ (w.alloc (.cells kinds t)).cell? ⟨w.heap.size, x * 4 + 1, none⟩ = some (.int .i64 (kNum x)) ∧
    (w.alloc (.cells kinds t)).cell? ⟨w.heap.size, x * 4 + 2, none⟩ = some (.string ⟨(kStr x).toArray⟩) ∧ (w.alloc (.cells kinds t)).cell? ⟨w.heap.size, x * 4 + 3, none⟩ = some (.slice none 0 0) := by
  have : x = 0 ∨ x = 1 ∨ x = 2 := by omega
  rcases this with rfl | rfl | rfl
  all_goals
    refine ⟨?_, ?_, ?_, ?_⟩
    all_goals
      rw [cells_of_alloc]; rfl
theorem kex_in (w : World) (S : Nat → Prop) (x : Nat) (hx : x < 3) : ExIn w S (kEx x) (EV (kOp x) (kNum x) ⟨(kStr x).toArray⟩ (.slice none 0 0)) := by
  refine ExIn.leaf (op := kOp x) (n := kNum x) (s := kStr x) ?_
  have : x = 0 ∨ x = 1 ∨ x = 2 := by omega
  rcases this with rfl | rfl | rfl
  all_goals exact ⟨⟨by decide, by decide⟩, ⟨by decide, by decide⟩, by decide⟩
theorem whole_in (w : World) (p x y : Nat) (hp : p < 10) (hx : x < 3) (hy : y < 3) :
    ExIn (w.alloc (.cells #[.int .i64 (kOp x), .int .i64 (kNum x), .string ⟨(kStr x).toArray⟩, .slice none 0 0, .int .i64 (kOp y), .int .i64 (kNum y), .string ⟨(kStr y).toArray⟩, .slice none 0 0] 25)) (fun _ => True) (whE p x y)
      (EV ((7 + p : Nat) : Int) 0 ⟨#[]⟩ (.slice (some ⟨w.heap.size, 0, none⟩) 2 2)) := by
  have hc := cells_of_alloc w #[.int .i64 (kOp x), .int .i64 (kNum x), .string ⟨(kStr x).toArray⟩, .slice none 0 0, .int .i64 (kOp y), .int .i64 (kNum y), .string ⟨(kStr y).toArray⟩, .slice none 0 0] 25
  have hnb := NB.new w #[.int .i64 (kOp x), .int .i64 (kNum x), .string ⟨(kStr x).toArray⟩, .slice none 0 0, .int .i64 (kOp y), .int .i64 (kNum y), .string ⟨(kStr y).toArray⟩, .slice none 0 0] 25
  have hz := alloc_size w (.cells #[.int .i64 (kOp x), .int .i64 (kNum x), .string ⟨(kStr x).toArray⟩, .slice none 0 0, .int .i64 (kOp y), .int .i64 (kNum y), .string ⟨(kStr y).toArray⟩, .slice none 0 0] 25)
  refine ex_two (op := ((7 + p : Nat) : Int)) ⟨by omega, by omega⟩ trivial (by omega) ?_
  exact RowIn.one hnb (hc 0) (hc 1) (hc 2) (hc 3) (kex_in _ _ x hx) (RowIn.one hnb (hc 4) (hc 5) (hc 6) (hc 7) (kex_in _ _ y hy) .none)
set_option maxHeartbeats 8000000 in
set_option maxRecDepth 1000000 in
theorem typeswhole_walk (i k m : Int) (w : World) (i0 : -9223372036854775808 ≤ i) (i1 : i ≤ 9223372036854775807) (k0 : -9223372036854775808 ≤ k) (k1 : k ≤ 9223372036854775807) (m0 : -9223372036854775808 ≤ m) (m1 : m ≤ 9223372036854775807) (hE : EnvP w) :
    Calls Tryz.prog 13 #[.int .i64 i, .int .i64 k, .int .i64 m] w fun e w' => e = .returned (.bool true) ∧ Below w.heap.size w w' := by
  obtain ⟨p, hp, cO⟩ := place_at8 i 10 i0 i1 (by decide) (by decide)
  obtain ⟨x, hx, cX⟩ := place_at8 k 3 k0 k1 (by decide) (by decide)
  obtain ⟨y, hy, cY⟩ := place_at8 m 3 m0 m1 (by decide) (by decide)
  rw [show ((10 : Nat) : Int) = 10 from rfl] at cO
  rw [show ((3 : Nat) : Int) = 3 from rfl] at cX cY
  have hall := whole_all ⟨p, hp⟩ ⟨x, hx⟩ ⟨y, hy⟩
  dsimp only at hall
  rw [ofC_eq] at hall
  obtain ⟨x0, x1, x2, x3⟩ := kinds_at w 52 x hx
  obtain ⟨y0, y1, y2, y3⟩ := kinds_at w 52 y hy
  have hb2 := below_alloc w (.cells kinds 52)
  have hs2 := alloc_size w (.cells kinds 52)
  have hxz : (x : Int) < 3 := by omega
  have hyz : (y : Int) < 3 := by omega
  have hpz : (p : Int) < 10 := by omega
  clear i0 i1 k0 k1 m0 m1
  go_enter Tryz.func13, Tryz.ntmps13
  go_wp2_with fail
  refine (cX _).mono ?_
  rintro e w1 ⟨rfl, rfl⟩
  go_wp2_with fail
  refine (cY _).mono ?_
  rintro e w1 ⟨rfl, rfl⟩
  go_wp2_with fail
  refine (cO _).mono ?_
  rintro e w1 ⟨rfl, rfl⟩
  go_wp2_with fail
  generalize hw2 : w.alloc (.cells kinds 52) = w2 at *
  have hg2 : w.heap.size < w2.heap.size := by omega
  obtain ⟨T, hT⟩ : ∃ T, tyN (ofE [] [] (whE p x y)) = T := ⟨_, rfl⟩
  obtain ⟨F, hF⟩ : ∃ F, tyF (ofE [] [] (whE p x y)) = F := ⟨_, rfl⟩
  have HW : Hid (T = wantN p x y ∧ F = if wantN p x y = 0 then 8 else 0) := Lib.hid (by
    rw [hT, hF] at hall
    injection hall with h1 h2
    exact ⟨h1, h2⟩)
  have HE2 := Lib.hid (hE.later hb2)
  have HB2 := Lib.hid hb2
  have cG := fun wz w0 (hb : Below w2.heap.size w2 wz) (h0 : Below (wz.alloc (.cells #[.int .i64 (kOp x), .int .i64 (kNum x), .string ⟨(kStr x).toArray⟩, .slice none 0 0, .int .i64 (kOp y), .int .i64 (kNum y), .string ⟨(kStr y).toArray⟩, .slice none 0 0] 25)).heap.size (wz.alloc (.cells #[.int .i64 (kOp x), .int .i64 (kNum x), .string ⟨(kStr x).toArray⟩, .slice none 0 0, .int .i64 (kOp y), .int .i64 (kNum y), .string ⟨(kStr y).toArray⟩, .slice none 0 0] 25)) w0) =>
    (types_any [] [] none none 0 0 (by decide) (by decide) (whE p x y) _ _ w0 (HE2.out.later (below_to (below_drew hb (Nat.le_refl _) _) h0)) ((whole_in wz p x y hp hx hy).later h0) (Els.nil _ _) (Els.nil _ _)).mono fun e w' h =>
    (⟨h.1, below_to (below_to (below_drew hb (Nat.le_refl _) _) h0) h.2⟩ : e = .returned (tyV (ofE [] [] (whE p x y))) ∧ Below w2.heap.size w2 w')
  rw [show ((7 + p : Nat) : Int) = 7 + (p : Int) by push_cast; rfl] at cG
  simp only [List.length_nil, tyV, hT, hF] at cG
  have cT := fun wz hb => cG wz _ hb (Below.refl _ _)
  have cD := fun wz hb => cG wz _ hb (Below.refl _ _).drew
  have cN := fun wz q hb => cG wz _ hb (below_dr (Below.refl _ _) q)
  clear cG
  clear hall hT hF hE hw2 hs2 cO cX cY hb2
  go_cut [11, 12] from 25 to 37 (fun s11 s12 wx => s11 = .int .i64 T ∧ s12 = .int .i64 F ∧ Hid (Below w2.heap.size w2 wx))
  case first =>
    go_region_with (go_at_call 31; (first | refine (cT _ ?hb).mono ?_ | refine (cD _ ?hb).mono ?_ | refine (cN _ _ ?hb).mono ?_); (case hb => first | exact below_dr (Below.refl _ _) _ | exact Below.refl _ _); rintro e wy ⟨rfl, hby⟩)
    all_goals
      go_wp2_with fail
      go_meet
      first
        | exact ⟨rfl, rfl, Lib.hid hby⟩
        | exact ⟨rfl, rfl, Lib.hid (below_dr hby _)⟩
  case rest =>
    obtain ⟨rfl, rfl, HB⟩ := hcut
    have cW := tyawake_any wc (HE2.out.later HB.out)
    have HBB := Lib.hid (below_to HB2.out HB.out)
    clear x0 x1 x2 x3 y0 y1 y2 y3 cT cD cN HB hg2 hxz hyz hpz HB2 HE2
    have kx : x = 0 ∨ x = 1 ∨ x = 2 := by omega
    have ky : y = 0 ∨ y = 1 ∨ y = 2 := by omega
    have kp : p ≤ 4 ∨ p = 5 ∨ p = 6 ∨ p = 7 ∨ p = 8 ∨ p = 9 := by omega
    clear hx hy hp
    rcases kp with kp | kp
    · have hh := HW.out
      unfold wantN at hh
      rw [if_pos kp] at hh
      have o1 : (7 : Int) + (p : Int) ≤ 11 := by omega
      have o2 : ((7 : Int) + (p : Int) == 12) = false := beq_eq_false_iff_ne.2 (by omega)
      have o3 : ((7 : Int) + (p : Int) == 13) = false := beq_eq_false_iff_ne.2 (by omega)
      have o4 : ((7 : Int) + (p : Int) == 14) = false := beq_eq_false_iff_ne.2 (by omega)
      have o5 : ((7 : Int) + (p : Int) == 15) = false := beq_eq_false_iff_ne.2 (by omega)
      have o6 : ¬ (16 : Int) ≤ (7 : Int) + (p : Int) := by omega
      clear kp HW
      generalize (7 : Int) + (p : Int) = O at *
      rcases kx with rfl | rfl | rfl <;> rcases ky with rfl | rfl | rfl
      all_goals
        simp at hh
        obtain ⟨rfl, rfl⟩ := hh
        go_wp2_with fail
        refine cW.mono ?_
        rintro e w3 ⟨rfl, b3⟩
        go_wp2_with fail
        go_ret
        exact ⟨rfl, below_to HBB.out b3⟩
    · rcases kp with rfl | rfl | rfl | rfl | rfl <;> rcases kx with rfl | rfl | rfl <;> rcases ky with rfl | rfl | rfl
      all_goals
        have hh := HW.out
        simp [wantN] at hh
        clear HW
        obtain ⟨rfl, rfl⟩ := hh
        go_wp2_with fail
        refine cW.mono ?_
        rintro e w3 ⟨rfl, b3⟩
        go_wp2_with fail
        go_ret
        exact ⟨rfl, below_to HBB.out b3⟩
open Go.ChangeShapes Go.WideShapes Go.ChangeAt Go.RowKit Go.Lib Go.Shelf
set_option maxRecDepth 1000000 in
theorem typeswhole_lifted (os : Os) (started : os.Started) (H : Type) (enc : TypeId × Value → H) :
    ReturnsInHanded {} Tryz.checked os 13 .any (fun w args => (Rows.typesWholeSpec.pre enc Tryz.prog Tryz.f13 [] false w args ∧ laidMetH Tryz.prog tabsLaid8 w) ∧ sizedMet enc Tryz.prog Tryz.f13 (OpenSpec.ofChange Rows.typesWholeSpec) false w args)
      (Rows.typesWholeSpec.post enc Tryz.prog Tryz.f13 false true false false) := by
  refine returnsInHanded_of_change_and (C := Tryz.checked) (X := fun w _ => laidMetH Tryz.prog tabsLaid8 w) (fun _ _ _ hh h => h.of_heap hh) own started (by kernel_rfl) Tryz.func13
    (ChangeSpec.witness_shaped (enc := enc) (C := Tryz.checked) (os := os) (X := fun w _ => laidMetH Tryz.prog tabsLaid8 w) false (World.laidAll Tryz.prog os tabsLaid8) #[.int .i64 0, .int .i64 0, .int .i64 0] 8 (World.laidAll_os _ _ _)
      (World.shaped_of_ZipB (by kernel_rfl) (by kernel_rfl)) (by kernel_rfl) (by kernel_rfl) (by kernel_rfl) (start_met8 os _)) ?_
  intro W base args ds gs before hval0 hW _ hsz0 hL _
  have hsz := hsz0
  have hval : ∀ (j : Nat) t v, Tryz.f13.params[j]? = some t → args[j]? = some v → Value.okWide Tryz.prog W .any base t v := hval0
  have hW' := hW
  obtain ⟨p, q, hA0, hV, rfl, _, _⟩ := hW
  have hA : DataW.TrodAll enc Tryz.prog W 0 (fun _ => true) true Tryz.f13.params.toList args.toList ds p := hA0
  rw [Tryz.params13] at hA hval
  obtain ⟨v0, v1, v2, d0, d1, d2, p0, p1, p2, rfl, rfl, rfl, h0, h1, h2⟩ := trodAll_three hA
  obtain ⟨rfl, rfl⟩ := trodVars_none hV
  obtain ⟨x0, rfl, rfl, rfl, wx0⟩ := open_int Tryz.underlying3 (hval 0 3 v0 rfl rfl) h0
  obtain ⟨x1, rfl, rfl, rfl, wx1⟩ := open_int Tryz.underlying3 (hval 1 3 v1 rfl rfl) h1
  obtain ⟨x2, rfl, rfl, rfl, wx2⟩ := open_int Tryz.underlying3 (hval 2 3 v2 rfl rfl) h2
  simp only [List.append_nil] at hW'
  refine (typeswhole_walk x0 x1 x2 W (bounds_i64 wx0).1 (bounds_i64 wx0).2 (bounds_i64 wx1).1 (bounds_i64 wx1).2 (bounds_i64 wx2).1 (bounds_i64 wx2).2 (envP_of_laid hL)).mono fun e W' ⟨he, hb⟩ => ?_
  subst he
  exact ⟨_, rfl, _, _, _, [], _, [], hW', trodAll_mk1 (shut_bool Tryz.underlying4 _), trodAll_mk3 (shut_int Tryz.underlying3 wx0) (shut_int Tryz.underlying3 wx1) (shut_int Tryz.underlying3 wx2), rfl, hb.frame _, fun h => by cases h⟩

theorem typeswhole_holds : Rows.TypesWholeSaid :=
  OpenClaim.holds_of_wide 13 Tryz.f13 rfl rfl rfl rfl rfl rfl rfl ⟨rfl, rfl, rfl, rfl, rfl⟩ rfl rfl rfl rfl rfl (by kernel_rfl) Tryz.func13 (by kernel_rfl)
    (of_decide_eq_true (by kernel_rfl)) (by unfold Func.isWrapper; first | (rw [if_pos (by decide +kernel)]; kernel_rfl) | (rw [if_neg (by decide +kernel)]; exact ⟨rfl, rfl⟩))
    (fun os started H enc _ => typeswhole_lifted os started H enc)

theorem typeswhole_card : Rows.TypesWholeCardSaid :=
  Claim7.holds_tied_plain_at .later [] [.data, .data, .data, .data, .sentinel, .sentinel, .data, .pinned] true _ true
    typeswhole_holds (fun _ h => by cases h) (by kernel_rfl) (fun _ h => by cases h) typesWhole_row_tie rfl ⟨rfl, rfl⟩ (by kernel_rfl) rfl
    (fun f fn hf hfn => by
      obtain rfl : f = 13 := Option.some.inj ((show Tryz.prog.funcNamed "palaver/palaverlaw08.TypesWhole" = some 13 by kernel_rfl).symm.trans hf) |>.symm
      obtain rfl : fn = Tryz.f13 := (Option.some.inj (Tryz.func13.symm.trans hfn)).symm
      exact ⟨by kernel_rfl, fun j t ht => by
        rw [Tryz.params13] at ht
        have hm : t ∈ [3, 3, 3] := by simpa using Array.mem_of_getElem? ht
        have hall : ([3, 3, 3].all fun u => !Tryz.prog.wantsStandIn u) = true := by kernel_rfl
        exact (show Tryz.prog.wantsStandIn t = false by simpa using List.all_eq_true.1 hall t hm)⟩)
    (by kernel_rfl)
end Go.Proofs.YtlhofjhkiollgaaGreatDoor
