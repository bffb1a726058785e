/- ParseAll. -/
import Derived.Test.YtjmfpgalepahoaaGreatDoorGR
import Derived.Test.YtjmfpgalepahoaaGreatDoorGQ
import Derived.Test.YtjmfpgalepahoaaGreatDoorMRxZ
import Derived.Test.YtjmfpgalepahoaaGreatDoorMRSame
namespace Go.Proofs.YtjmfpgalepahoaaGreatDoor
open Go.RowKit

/-- Where it is wrong, and why. -/
def paF (R : Except (Nat × Nat) Ex) : Int × Int := match R with | .ok _ => (0, 0) | .error q => ((q.1 : Int), (q.2 : Int))
set_option maxHeartbeats 4000000 in
set_option maxRecDepth 1000000 in
theorem parseall_walk (s : ByteArray) (w : World) (hs : s.size ≤ 9223372036854775807) (hE : EnvP w) :
    Calls Tryz.prog 3 #[.string s] w fun e w' => e = .returned (.bool true) ∧ Below w.heap.size w w' := by
  have cW := fun w' (hb : Below w.heap.size w w') => awake_any w' (hE.later hb)
  by_cases hl : 5000 < s.size
  · have hlz : (5000 : Int) < (s.size : Int) := by omega
    have c := cW w (Below.refl _ _)
    go_enter Tryz.func3, Tryz.ntmps3
    go_wp2_with fail
    refine c.mono ?_
    rintro e w1 ⟨rfl, b1⟩
    go_wp2_with fail
    go_ret
    exact ⟨rfl, b1⟩
  have hlz : ¬ (5000 : Int) < (s.size : Int) := by omega
  obtain ⟨R, hS⟩ := says_all s.data.toList
  have cP := parseF_any s R w (by omega) hE hS
  have cQ := fun w' (hb : Below w.heap.size w w') => (rparseF_any s R w' (by omega) (hE.later hb) hS)
  have HQ := Lib.hid cQ
  have HWK := Lib.hid cW
  clear hs hE hS cQ cW
  obtain ⟨E, hE1⟩ : ∃ E : Ex, ∀ (wz : World) e w', PaEnd wz R e w' → Below wz.heap.size wz w' ∧ ∃ op n z ao l c p f, e = .returned (.tuple #[EV op n z (.slice ao l c), .int .i64 p, .int .i64 f]) ∧ ExIn w' (Up wz.heap.size) E (EV op n z (.slice ao l c)) ∧ (p, f) = paF R := by
    cases R with
    | ok a =>
      refine ⟨a, fun wz e w' h => ?_⟩
      obtain ⟨hb, op, n, z, ao, c, rfl, hx⟩ := h
      exact ⟨hb, op, n, z, ao, _, c, 0, 0, rfl, hx, rfl⟩
    | error q =>
      refine ⟨.mk 0 0 [] [], fun wz e w' h => ?_⟩
      obtain ⟨hb, rfl⟩ := h
      exact ⟨hb, 0, 0, ⟨#[]⟩, none, 0, 0, _, _, rfl, ExIn.leaf ⟨⟨by decide, by decide⟩, in64_0, by decide⟩, rfl⟩
  obtain ⟨PF, hPF⟩ : ∃ PF : Int × Int, paF R = PF := ⟨_, rfl⟩
  rw [hPF] at hE1
  obtain ⟨P, Fv⟩ := PF
  have HE1 := Lib.hid hE1
  clear hE1 hPF
  go_enter Tryz.func3, Tryz.ntmps3
  go_wp2_with fail
  refine cP.mono ?_
  rintro e w1 hP
  obtain ⟨b1, op, n, z, ao, l, c, p, f, rfl, hx, hpf⟩ := HE1.out _ _ _ hP
  injection hpf with hp hf
  subst hp hf
  have d2 := below_alloc w1 (.cells #[.int .i64 op, .int .i64 n, .string z, .slice ao l c] 25)
  have f2 := four_new w1 (.int .i64 op) (.int .i64 n) (.string z) (.slice ao l c) 25
  have hx2 := hx.later d2
  have hB2 := below_to b1 d2
  obtain ⟨w2, hw2⟩ : ∃ w2, w1.alloc (.cells #[.int .i64 op, .int .i64 n, .string z, .slice ao l c] 25) = w2 := ⟨_, rfl⟩
  rw [hw2] at d2 f2 hx2 hB2
  have c3 := HQ.out w2 hB2
  have HX2 := Lib.hid hx2
  have HB2 := Lib.hid hB2
  have HF2 := Lib.hid f2
  clear cP hP b1 hx d2 hx2 hB2 f2 HQ
  go_wp2_with fail
  refine c3.mono ?_
  rintro e w3 hP
  obtain ⟨b3, op2, n2, z2, ao2, l2, c2, p2, f2, rfl, hx3, hpf⟩ := HE1.out _ _ _ hP
  injection hpf with hp hf
  subst hp hf
  have d4 := below_alloc w3 (.cells #[.int .i64 op2, .int .i64 n2, .string z2, .slice ao2 l2 c2] 25)
  have f4 := four_new w3 (.int .i64 op2) (.int .i64 n2) (.string z2) (.slice ao2 l2 c2) 25
  have hx4 := hx3.later d4
  have b4 := below_to b3 d4
  obtain ⟨w4, hw4⟩ : ∃ w4, w3.alloc (.cells #[.int .i64 op2, .int .i64 n2, .string z2, .slice ao2 l2 c2] 25) = w4 := ⟨_, rfl⟩
  rw [hw4] at d4 f4 hx4 b4
  have c5 := fun w' (hb : Below w4.heap.size w4 w') => rsame_any E _ _ _ _ w' ((HX2.out.later b4).later hb) (hx4.later hb)
  have hF2 := HF2.out.later b4
  obtain ⟨-, y0, y1, y2, y3, -⟩ := hF2
  obtain ⟨-, u0, u1, u2, u3, -⟩ := f4
  have HB4 := Lib.hid (below_to HB2.out b4)
  clear c3 hP b3 hx3 d4 hx4 b4 HX2 HF2 HE1
  go_wp2_with fail
  refine (c5 w4 (Below.refl _ _)).mono ?_
  rintro e w5 ⟨rfl, b5⟩
  have HB5 := Lib.hid (below_to HB4.out b5)
  have c6 := HWK.out w5 HB5.out
  clear c5 b5 y0 y1 y2 y3 u0 u1 u2 u3 HB4 HB2 hw2 hw4
  go_wp2_with fail
  refine c6.mono ?_
  rintro e w6 ⟨rfl, b6⟩
  go_wp2_with fail
  go_ret
  exact ⟨rfl, below_to HB5.out b6⟩
end Go.Proofs.YtjmfpgalepahoaaGreatDoor
