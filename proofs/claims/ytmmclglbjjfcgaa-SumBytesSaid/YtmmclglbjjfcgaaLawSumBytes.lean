/- The statement SumBytes: for every sum and every bytes, gone on with byte by byte it is as gone on with all at once, and with no bytes it stays. Conditions: none. -/
import Derived.Test.YtmmclglbjjfcgaaSumFrame
namespace Go.Proofs.Ytmmclglbjjfcgaa
open Go.ChangeShapes Go.WideShapes Go.ChangeAt Go.RowKit

theorem more_snoc (s : BitVec 32) (L : List UInt8) (k : Nat) (h : k < L.length) : moreB (moreB s (L.take k)) [L.getD k 0] = moreB s (L.take (k + 1)) := by
  rw [more_more, List.take_succ_eq_append_getElem h, List.getD_eq_getElem?_getD, List.getElem?_eq_getElem h]; rfl
/-- One byte of bytes that lie somewhere. -/
theorem bs_one {w : World} {b off : Nat} {L : List UInt8} {k : Nat} (hc : w.cell? ⟨b, off + k, none⟩ = some (.int .u8 ((L.getD k 0).toNat : Int))) : Bs w (some ⟨b, off + k, none⟩) [L.getD k 0] := fun _ => by
  refine ⟨b, off + k, rfl, fun j hj => ?_⟩
  obtain rfl : j = 0 := by simp only [List.length_cons, List.length_nil] at hj; omega
  exact hc

set_option maxHeartbeats 1000000 in
theorem sumbytes_walk (s : BitVec 32) (A : Option Addr) (L : List UInt8) (cap : Nat) (w : World) (hlc : L.length ≤ cap) (hcm : cap ≤ 140737488351232) (hB : Bs w A L) (hcap : A = none → cap = 0) :
    Calls Try.prog 7 #[.int .u32 (Z s), .slice A L.length cap] w fun e w' => e = .returned (.bool true) ∧ Below w.heap.size w w' := by
  have cMore := more_any s A L cap w (by omega) hB
  have cNil := more_any s none [] 0 w (by simp) (Bs.nil _ _)
  rw [more_nil] at cNil
  have haw := awake_any w
  go_enter Try.func7, Try.ntmps7
  go_wp2_with fail
  go_loop [5, 6] (fun x i => ∃ k : Nat, k ≤ L.length ∧ i = .int .i64 k ∧ x = .int .u32 (Z (moreB s (L.take k)))) (fun _ i => L.length - (intOf i).toNat)
  case atStart => exact ⟨0, Nat.zero_le _, rfl, by rw [List.take_zero, more_nil]⟩
  case round =>
    obtain ⟨k, hk, rfl, rfl⟩ := hrel
    by_cases hlt : k < L.length
    · obtain ⟨b, off, rfl, hc⟩ := hB (by omega)
      have cOne := more_any (moreB s (L.take k)) (some ⟨b, off + k, none⟩) [L.getD k 0] (cap - k) w (by simp) (bs_one (hc k hlt))
      rw [more_snoc s L k hlt] at cOne
      clear hc hB cMore cNil haw hcap
      go_wp2_with fail
      refine cOne.mono ?_
      rintro e w' ⟨rfl, rfl⟩
      go_wp2
      go_round
      case rel => exact ⟨k + 1, by omega, by go_num, rfl⟩
      case measure => simp [intOf]; omega
    · obtain rfl : k = L.length := by omega
      rw [List.take_length] at *
      clear hB hcap
      generalize Z (moreB s L) = T at *
      go_wp2_with fail
      refine cMore.mono ?_
      rintro e w2 ⟨rfl, rfl⟩
      go_wp2_with fail
      refine cNil.mono ?_
      rintro e w2 ⟨rfl, rfl⟩
      go_wp2_with fail
      refine haw.mono ?_
      rintro e w2 ⟨rfl, hb2⟩
      go_wp2
      go_ret
      exact ⟨rfl, hb2⟩
set_option maxRecDepth 100000 in
theorem sumbytes_lifted (os : Os) (started : os.Started) (H : Type) (enc : TypeId × Value → H) :
    ReturnsInHanded {} Try.checked os 7 .any (Rows.sumBytesSpec.pre6 enc Try.prog Try.f7 Rows.sumBytesRow.domain false) (Rows.sumBytesSpec.post enc Try.prog Try.f7 false true false false) := by
  refine returnsInHanded_of_change_sized (C := Try.checked) own started (by kernel_rfl) Try.func7
    (ChangeSpec.witness6 (enc := enc) (C := Try.checked) false ⟨#[], #[.int .u32 0, .slice none 0 0], []⟩ 8 (by kernel_rfl) (by kernel_rfl) (by kernel_rfl) (by kernel_rfl)) ?_
  intro W base args ds gs before hval0 hW _ hsz0 _
  have hsz : (DataW.weightsEach Try.prog (Try.f7.params.toList ++ Rows.sumBytesSpec.plain.varTypes Try.prog) (ds ++ gs)).all (· ≤ reachBytes) = true := hsz0
  have hval : ∀ (j : Nat) t v, Try.f7.params[j]? = some t → args[j]? = some v → Value.okWide Try.prog W .any base t v := hval0
  have hW' := hW
  obtain ⟨p, q, hA0, hV, rfl, _, _⟩ := hW
  have hA : DataW.TrodAll enc Try.prog W 0 (fun _ => true) true Try.f7.params.toList args.toList ds p := hA0
  rw [Try.params7] at hA hval hsz
  obtain ⟨v0, v1, d0, d1, p0, p1, rfl, rfl, rfl, h0, h1⟩ := trodAll_two hA
  obtain ⟨rfl, rfl⟩ := trodVars_none hV
  simp only [List.append_nil] at hW'
  obtain ⟨x0, rfl, rfl, rfl, wx0⟩ := open_int Try.underlying22 (hval 0 22 v0 rfl rfl) h0
  obtain ⟨X0, rfl⟩ := Z_of x0 (bounds_u32 wx0).1 (bounds_u32 wx0).2
  have hlt1 : ∀ x ∈ p1, x.block < W.heap.size := fun x hx => hW'.lt x (by simp [hx])
  have h1k := h1
  obtain ⟨A1, L1, c1, rfl, lc1, cm1, B1, N1⟩ := open_bytes Try.underlying23 Try.underlying5 (by kernel_rfl) (hval 1 23 v1 rfl rfl) h1 (fun elems spare e => by
    subst e
    have := sized_slice hsz (j := 1) (t := 23) (e := 5) rfl rfl Try.underlying23
    rwa [show Try.prog.bytesOf 5 = 1 by kernel_rfl] at this)
  refine (sumbytes_walk X0 A1 L1 c1 W lc1 cm1 B1 N1).mono fun e W' ⟨he, hb⟩ => ?_
  subst he
  exact ⟨_, rfl, _, _, _, [], _, [], hW', trodAll_mk1 (shut_bool Try.underlying4 _), trodAll_mk2 (shut_int Try.underlying22 wx0) (Below.trod laidOut (by kernel_rfl) (of_decide_eq_true (by kernel_rfl)) h1k hb hlt1), rfl, hb.frame _, fun h => by cases h⟩

theorem sumbytes_holds : Rows.SumBytesSaid :=
  OpenClaim.holds_of_wide 7 Try.f7 rfl rfl rfl rfl rfl rfl rfl ⟨rfl, rfl, rfl, rfl, rfl⟩ rfl rfl rfl rfl rfl (by kernel_rfl) Try.func7 (by kernel_rfl)
    (of_decide_eq_true (by kernel_rfl)) (by unfold Func.isWrapper; first | (rw [if_pos (by decide +kernel)]; kernel_rfl) | (rw [if_neg (by decide +kernel)]; exact ⟨rfl, rfl⟩))
    (fun os started H enc _ => sumbytes_lifted os started H enc)
end Go.Proofs.Ytmmclglbjjfcgaa
