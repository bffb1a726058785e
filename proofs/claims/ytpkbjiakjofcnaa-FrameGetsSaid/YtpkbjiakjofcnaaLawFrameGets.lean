/- The statement FrameGets: any bytes read as a frame from any place on: the program's answer is the document's. Conditions: none. -/
import Derived.Test.YtpkbjiakjofcnaaFRefGet
namespace Go.Proofs.Ytpkbjiakjofcnaa
open Go.ChangeShapes Go.WideShapes Go.ChangeAt Go.RowKit

theorem gE_lo (L : List UInt8) (at_ : Nat) : 0 ≤ gE L at_ ∧ gE L at_ ≤ 4 := by
  unfold gE; split
  · exact ⟨by decide, by decide⟩
  · split <;> exact ⟨by decide, by decide⟩

set_option maxHeartbeats 1000000 in
theorem framegets_tail (A : Option Addr) (L : List UInt8) (ca : Nat) (v : Int) (w : World) (hlc : L.length ≤ ca) (hcm : ca ≤ 140737488351232) (hA : Bs w A L) (hnil : A = none → ca = 0) (X : List UInt8) (n er : Int)
    (cG : ∀ (A1 : Option Addr) (cap1 : Nat) (w1 : World), L.length ≤ cap1 → Bs w1 A1 L → Calls Try.prog 14 #[.slice A1 L.length cap1, .int .i64 v] w1 (GetEnd w1 X n er))
    (cR : ∀ w1 : World, Bs w1 A L → Calls Try.prog 15 #[.slice A L.length ca, .int .i64 v] w1 (GetEnd w1 X n er)) :
    Calls Try.prog 4 #[.slice A L.length ca, .int .i64 v] w fun e w' => e = .returned (.bool true) ∧ Below w.heap.size w w' := by
  have hby := bytes_any A L ca w (by omega) hA hnil
  go_enter Try.func4, Try.ntmps4
  go_wp2_with fail
  (with_reducible refine hby.mono ?_)
  rintro e w1 ⟨A1, cap1, rfl, hB1, _, hown, hb1⟩
  have c1 := cG A1 cap1 w1 (own_cap hown) hB1
  have HA1 := Lib.hid (hA.below hb1)
  clear hby hB1 hown hA hnil cG
  go_wp2_with fail
  (with_reducible refine c1.mono ?_)
  rintro e w2 ⟨A2, cap2, rfl, hB2, _, hb2⟩
  have c2 := cR w2 (HA1.out.below hb2)
  have HQ2 := Lib.hid (hb1.trans (hb2.mono hb1.size))
  have HB2 := Lib.hid hB2
  clear c1 hB2 hb2 hb1 HA1 cR
  go_wp2_with fail
  (with_reducible refine c2.mono ?_)
  rintro e w3 ⟨A3, cap3, rfl, hB3, _, hb3⟩
  have k1 := run_str_of (P := Try.prog) (w := w3) 22 9 5 cap2 Try.underlying22 Try.underlying5 Try.underlying9 (HB2.out.below hb3)
  have k2 := run_str_of (P := Try.prog) (w := w3) 22 9 5 cap3 Try.underlying22 Try.underlying5 Try.underlying9 hB3
  have HQ3 := Lib.hid (HQ2.out.trans (hb3.mono HQ2.out.size))
  have haw := awake_any w3
  clear c2 hB3 hb3 HQ2 HB2
  generalize (⟨X.toArray⟩ : ByteArray) = txt at *
  go_wp2_with fail
  (with_reducible refine haw.mono ?_)
  rintro e w4 ⟨rfl, hb4⟩
  go_wp2
  go_ret
  exact ⟨rfl, HQ3.out.trans (hb4.mono HQ3.out.size)⟩

theorem framegets_walk (A : Option Addr) (L : List UInt8) (ca : Nat) (v : Int) (w : World) (hlc : L.length ≤ ca) (hcm : ca ≤ 140737488351232) (hA : Bs w A L) (hnil : A = none → ca = 0) (_ : -9223372036854775808 ≤ v) (_ : v ≤ 9223372036854775807) :
    Calls Try.prog 4 #[.slice A L.length ca, .int .i64 v] w fun e w' => e = .returned (.bool true) ∧ Below w.heap.size w w' := by
  by_cases h : 0 ≤ v ∧ v ≤ (L.length : Int)
  · obtain ⟨at_, rfl⟩ : ∃ at_ : Nat, v = (at_ : Int) := ⟨v.toNat, by omega⟩
    exact framegets_tail A L ca _ w hlc hcm hA hnil _ _ _ (fun A1 cap1 w1 h1 hB => get_in A1 L cap1 at_ w1 (by omega) h1 (by omega) hB) (fun w1 hB => refget_in A L ca at_ w1 (by omega) hlc (by omega) hB)
  · exact framegets_tail A L ca v w hlc hcm hA hnil [] 0 1 (fun A1 cap1 w1 _ _ => get_out A1 L.length cap1 v w1 (by omega) (by omega)) (fun w1 _ => refget_out A L.length ca v w1 (by omega))
set_option maxRecDepth 100000 in
theorem framegets_lifted (os : Os) (started : os.Started) (H : Type) (enc : TypeId × Value → H) :
    ReturnsInHanded {} Try.checked os 4 .any (Rows.frameGetsSpec.pre6 enc Try.prog Try.f4 Rows.frameGetsRow.domain false) (Rows.frameGetsSpec.post enc Try.prog Try.f4 false true false false) := by
  refine returnsInHanded_of_change_sized (C := Try.checked) own started (by kernel_rfl) Try.func4
    (ChangeSpec.witness6 (enc := enc) (C := Try.checked) false ⟨#[], #[.slice none 0 0, .int .i64 0], []⟩ 8 (by kernel_rfl) (by kernel_rfl) (by kernel_rfl) (by kernel_rfl)) ?_
  intro W base args ds gs before hval0 hW _ hsz0 _
  have hsz : (DataW.weightsEach Try.prog (Try.f4.params.toList ++ Rows.frameGetsSpec.plain.varTypes Try.prog) (ds ++ gs)).all (· ≤ reachBytes) = true := hsz0
  have hval : ∀ (j : Nat) t v, Try.f4.params[j]? = some t → args[j]? = some v → Value.okWide Try.prog W .any base t v := hval0
  have hW' := hW
  obtain ⟨p, q, hA0, hV, rfl, _, _⟩ := hW
  have hA : DataW.TrodAll enc Try.prog W 0 (fun _ => true) true Try.f4.params.toList args.toList ds p := hA0
  rw [Try.params4] at hA hval hsz
  obtain ⟨v0, v1, d0, d1, p0, p1, rfl, rfl, rfl, h0, h1⟩ := trodAll_two hA
  obtain ⟨rfl, rfl⟩ := trodVars_none hV
  simp only [List.append_nil] at hW'
  have hlt0 : ∀ x ∈ p0, x.block < W.heap.size := fun x hx => hW'.lt x (by simp [hx])
  have h0k := h0
  obtain ⟨A0, L0, c0, rfl, lc0, cm0, B0, N0⟩ := open_bytes Try.underlying22 Try.underlying5 (by kernel_rfl) (hval 0 22 v0 rfl rfl) h0 (fun elems spare e => by
    subst e
    have := sized_slice hsz (j := 0) (t := 22) (e := 5) rfl rfl Try.underlying22
    rwa [show Try.prog.bytesOf 5 = 1 by kernel_rfl] at this)
  obtain ⟨x1, rfl, rfl, rfl, wx1⟩ := open_int Try.underlying3 (hval 1 3 v1 rfl rfl) h1
  refine (framegets_walk A0 L0 c0 x1 W lc0 cm0 B0 N0 (bounds_i64 wx1).1 (bounds_i64 wx1).2).mono fun e W' ⟨he, hb⟩ => ?_
  subst he
  exact ⟨_, rfl, _, _, _, [], _, [], hW', trodAll_mk1 (shut_bool Try.underlying4 _), trodAll_mk2 (Below.trod laidOut (by kernel_rfl) (of_decide_eq_true (by kernel_rfl)) h0k hb hlt0) (shut_int Try.underlying3 wx1), rfl, hb.frame _, fun h => by cases h⟩

theorem framegets_holds : Rows.FrameGetsSaid :=
  OpenClaim.holds_of_wide 4 Try.f4 rfl rfl rfl rfl rfl rfl rfl ⟨rfl, rfl, rfl, rfl, rfl⟩ rfl rfl rfl rfl rfl (by kernel_rfl) Try.func4 (by kernel_rfl)
    (of_decide_eq_true (by kernel_rfl)) (by unfold Func.isWrapper; first | (rw [if_pos (by decide +kernel)]; kernel_rfl) | (rw [if_neg (by decide +kernel)]; exact ⟨rfl, rfl⟩))
    (fun os started H enc _ => framegets_lifted os started H enc)
end Go.Proofs.Ytpkbjiakjofcnaa
