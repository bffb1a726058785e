/- The chapter's example is true. -/
import Derived.Test.YtpkbjiakjofcnaaFEnds
import Derived.Lib.SlBytesConst
namespace Go.Proofs.Ytpkbjiakjofcnaa
open Go.RowKit

theorem ex_ok : okF [97] := ⟨by decide, by decide⟩
theorem ex_one : putI (([97] : List UInt8).length : Int) = [2] := by
  unfold putI
  rw [show uz (([97] : List UInt8).length : Int) = 2 by decide, enc_low (by decide)]
  rfl
theorem ex_len : (putF [97]).length = 6 := by rw [putF_len, ex_one]; rfl
theorem ex_first : (putF [97]).getD 0 0 = 2 := by unfold putF headF; rw [ex_one]; rfl
theorem ex_frs : Frs (putF [97]) [[97]] [] := by
  have h := frs_flat (bs := [[97]]) (fun b hb => by rw [List.mem_singleton.1 hb]; exact ex_ok)
  rwa [flat_one] at h
theorem ex_fr : fr ((putF [97]).drop 0) = some [97] := by
  have h := fr_put ex_ok []
  rwa [List.append_nil] at h
theorem ex_pos : pos [[97]] ([[97]] : List (List UInt8)).length = 6 := by rw [pos_all, flat_one, ex_len]
theorem ex_whole : wholeB (putF [97]) [[97]] = true := by unfold wholeB; rw [ex_pos, ex_len]; rfl
theorem ex_bs (w : World) (t : TypeId) (z : Nat × Nat) : Bs (w.alloc (.cells #[.int .u8 97] t z)) (some ⟨w.heap.size, 0, none⟩) [97] := by
  refine fun _ => ⟨_, 0, rfl, fun j hj => ?_⟩
  rw [Nat.zero_add, cell_of_row _ _ j _ t z (heap_alloc_new w _)]
  simp only [List.length_cons, List.length_nil] at hj
  obtain rfl : j = 0 := by omega
  rfl
theorem own_cap {B : Nat} {w : World} {A : Option Addr} {n cap : Nat} {xs : List Value} {e : TypeId} (h : w.ownsRow B e 1 (.slice A n cap) n xs) : n ≤ cap := by
  rcases h.2 with ⟨e1, rfl⟩ | ⟨g, c, cur, e1, _, _, hc, _⟩
  · exact Nat.zero_le _
  · injection e1 with _ _ e1; omega

set_option maxRecDepth 100000 in
set_option maxHeartbeats 1000000 in
theorem awake_any (w : World) : Calls Try.prog 12 #[] w fun e w' => e = .returned (.bool true) ∧ Below w.heap.size w w' := by
  obtain ⟨b, hb⟩ : ∃ b, b = putF [97] := ⟨_, rfl⟩
  have cp := fun (t : TypeId) (z : Nat × Nat) => put_yes none (some ⟨w.heap.size, 0, none⟩) [] [97] 0 1 (w.alloc (.cells #[.int .u8 97] t z)) (by simp) ex_ok (Bs.nil _ _) (ex_bs w t z)
  simp only [List.nil_append, List.length_nil, List.length_cons, Nat.zero_add] at cp
  rw [← hb] at cp
  have HB := Lib.hid hb
  clear hb
  have kc := fun (w : World) (C : Array Value) (n c : Nat) => Lib.run_convert_bytes_const (P := Try.prog) w 22 5 C n c Try.underlying22 Try.underlying5
  go_enter Try.func12, Try.ntmps12
  go_wp2_with fail
  refine (cp _ _).mono ?_
  rintro e w1 ⟨A1, cap1, rfl, hB1, _, hown, hq1⟩
  have hl : b.length = 6 := by rw [HB.out]; exact ex_len
  have hc := own_cap hown
  have e1 : gB b 0 = [97] := by unfold gB; rw [HB.out, ex_fr]; rfl
  have e2 : gN b 0 = 6 := by unfold gN; rw [HB.out, ex_fr]; simp only [ex_len]; rfl
  have e3 : gE b 0 = 0 := by unfold gE; rw [HB.out, ex_fr]
  have cg : Calls Try.prog 14 #[.slice A1 b.length cap1, .int .i64 0] w1 (GetEnd w1 [97] 6 0) := by
    have h := get_in A1 b cap1 0 w1 (by omega) hc (Nat.zero_le _) hB1
    rw [e1, e2, e3] at h
    exact h
  clear e1 e2 e3
  have HQ1 := Lib.hid (((Below.refl _ w).alloc (Nat.le_refl _) _).trans (hq1.mono (by simp)))
  have HB1 := Lib.hid hB1
  clear cp hown hq1 hB1
  rw [hl] at cg hc ⊢
  have HL := Lib.hid hl
  clear hl
  go_wp2_with fail
  (with_reducible refine cg.mono ?_)
  rintro e w2 ⟨A2, cap2, rfl, hB2, _, hq2⟩
  have HQ2 := Lib.hid (HQ1.out.trans (hq2.mono HQ1.out.size))
  have hF : Frs b [[97]] [] := by rw [HB.out]; exact ex_frs
  have ce := ends_any A1 b [] [[97]] cap1 w2 hF (by rw [HL.out]; omega) (by rw [HL.out]; exact hc) (HB1.out.below hq2)
  rw [HL.out, show wholeB b [[97]] = true by rw [HB.out]; exact ex_whole, ex_pos] at ce
  simp only [Int.cast_ofNat_Int] at ce
  obtain ⟨ob, off, rfl, hcc⟩ := HB1.out (by rw [HL.out]; omega)
  have hc0 := hcc 0 (by rw [HL.out]; omega)
  rw [show b.getD 0 0 = 2 by rw [HB.out]; exact ex_first] at hc0
  have hlt : ob < w1.heap.size := Bs.lt (by rw [HL.out]; omega) hcc
  have hc2 : w2.cell? ⟨ob, off, none⟩ = some (.int .u8 2) := (hq2.cell (p := ⟨ob, off, none⟩) hlt).trans hc0
  have hlt2 : ob < w2.heap.size := Nat.lt_of_lt_of_le hlt hq2.size
  have HB2 := Lib.hid hB2
  clear cg hq2 hB2 hF hcc HB1 HQ1
  go_wp2_with fail
  (with_reducible refine ce.mono ?_)
  rintro e w3 ⟨rfl, hq3⟩
  have ks := run_str_of (P := Try.prog) (w := w3) 22 9 5 cap2 Try.underlying22 Try.underlying5 Try.underlying9 (HB2.out.below hq3)
  have hc3 : w3.cell? ⟨ob, off, none⟩ = some (.int .u8 2) := (hq3.cell (p := ⟨ob, off, none⟩) hlt2).trans hc2
  have HQ3 := Lib.hid (HQ2.out.trans (hq3.mono HQ2.out.size))
  clear ce hq3 hc0 hc2 HB2 HQ2
  simp only [List.length_cons, List.length_nil, Nat.zero_add] at ks
  go_wp2
  go_ret
  exact ⟨rfl, HQ3.out⟩
end Go.Proofs.Ytpkbjiakjofcnaa
