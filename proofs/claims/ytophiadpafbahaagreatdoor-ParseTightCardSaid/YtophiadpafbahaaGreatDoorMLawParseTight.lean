/- ParseTight, by an outline. -/
import Derived.Test.YtophiadpafbahaaGreatDoorGR
import Derived.Test.YtophiadpafbahaaGreatDoorMParTight
import Derived.Test.YtophiadpafbahaaGreatDoorGB
import Derived.Deep.CutRange
import Derived.BigQuiet
namespace Go.Proofs.YtophiadpafbahaaGreatDoor
open Go.RowKit

theorem place_at (v : Int) (n : Nat) (h0 : -9223372036854775808 ≤ v) (h1 : v ≤ 9223372036854775807) (hn : 1 ≤ n) (hn1 : n ≤ 4611686018427387904) :
    ∃ k : Nat, k < n ∧ ∀ w : World, Calls Tryz.prog 26 #[.int .i64 v, .int .i64 n] w fun e w' => e = .returned (.int .i64 (k : Int)) ∧ w = w' := by
  have lo := placeZ_lo v n (by omega)
  have hi := placeZ_hi v n (by omega)
  refine ⟨(placeZ v n).toNat, by omega, fun w => ?_⟩
  have c := place_any v n w h0 h1 (by omega) (by omega)
  rwa [show (((placeZ v n).toNat : Nat) : Int) = placeZ v n by omega]
def sgV : Array Value := #[.string ⟨#[124]⟩, .string ⟨#[38]⟩, .string ⟨#[61]⟩, .string ⟨#[33, 61]⟩, .string ⟨#[60]⟩, .string ⟨#[60, 61]⟩, .string ⟨#[43]⟩, .string ⟨#[45]⟩, .string ⟨#[42]⟩, .string ⟨#[47]⟩, .string ⟨#[37]⟩]
def lnV : Array Value := #[.int .i64 0, .int .i64 1, .int .i64 2, .int .i64 2, .int .i64 2, .int .i64 2, .int .i64 3, .int .i64 3, .int .i64 4, .int .i64 4, .int .i64 4]
theorem sgV_at : ∀ a : Fin 11, sgV[a.val]? = some (.string ⟨(sgA.getD a.val []).toArray⟩) := by
  intro a
  match a with
  | ⟨0, _⟩ => rfl | ⟨1, _⟩ => rfl | ⟨2, _⟩ => rfl | ⟨3, _⟩ => rfl | ⟨4, _⟩ => rfl | ⟨5, _⟩ => rfl | ⟨6, _⟩ => rfl | ⟨7, _⟩ => rfl | ⟨8, _⟩ => rfl | ⟨9, _⟩ => rfl | ⟨10, _⟩ => rfl
theorem lnV_at : ∀ a : Fin 11, lnV[a.val]? = some (.int .i64 ((lnA.getD a.val 0 : Nat) : Int)) := by
  intro a
  match a with
  | ⟨0, _⟩ => rfl | ⟨1, _⟩ => rfl | ⟨2, _⟩ => rfl | ⟨3, _⟩ => rfl | ⟨4, _⟩ => rfl | ⟨5, _⟩ => rfl | ⟨6, _⟩ => rfl | ⟨7, _⟩ => rfl | ⟨8, _⟩ => rfl | ⟨9, _⟩ => rfl | ⟨10, _⟩ => rfl
theorem sgA_len : ∀ a : Fin 11, (sgA.getD a.val []).length ≤ 2 := by decide
theorem tight_len : ∀ a b : Fin 11, (tightT a.val b.val).length ≤ 20 := by decide
theorem lnA_le : ∀ a : Fin 11, lnA.getD a.val 0 ≤ 4 := by decide
set_option maxHeartbeats 4000000 in
set_option maxRecDepth 1000000 in
theorem parsetight_walk (i k : Int) (w : World) (i0 : -9223372036854775808 ≤ i) (i1 : i ≤ 9223372036854775807) (k0 : -9223372036854775808 ≤ k) (k1 : k ≤ 9223372036854775807) (hE : EnvP w) :
    Calls Tryz.prog 7 #[.int .i64 i, .int .i64 k] w fun e w' => e = .returned (.bool true) ∧ Below w.heap.size w w' := by
  obtain ⟨a, ha, cA⟩ := place_at i 11 i0 i1 (by decide) (by decide)
  obtain ⟨b, hb, cB⟩ := place_at k 11 k0 k1 (by decide) (by decide)
  rw [show ((11 : Nat) : Int) = 11 from rfl] at cA cB
  have hall := tight_all ⟨a, ha⟩ ⟨b, hb⟩
  have la2 := sgA_len ⟨a, ha⟩
  have lb2 := sgA_len ⟨b, hb⟩
  have l4a := lnA_le ⟨a, ha⟩
  have l4b := lnA_le ⟨b, hb⟩
  have htl := tight_len ⟨a, ha⟩ ⟨b, hb⟩
  dsimp only at htl hall la2 lb2 l4a l4b
  have hb1 := below_alloc w (.cells sgV 37)
  have hb2 := below_to hb1 (below_alloc (w.alloc (.cells sgV 37)) (.cells lnV 38))
  have hs1 := alloc_size w (.cells sgV 37)
  have hs2 := alloc_size (w.alloc (.cells sgV 37)) (.cells lnV 38)
  have hSg : ∀ j : Nat, ((w.alloc (.cells sgV 37)).alloc (.cells lnV 38)).cell? ⟨w.heap.size, j, none⟩ = sgV[j]? := fun j => by
    rw [(below_alloc (w.alloc (.cells sgV 37)) _).cell (p := ⟨w.heap.size, j, none⟩) (by dsimp only; omega), cells_of_alloc]
  have hLn : ∀ j : Nat, ((w.alloc (.cells sgV 37)).alloc (.cells lnV 38)).cell? ⟨w.heap.size + 1, j, none⟩ = lnV[j]? := fun j => by
    have := cells_of_alloc (w.alloc (.cells sgV 37)) lnV 38 j
    rwa [hs1] at this
  have sA := (hSg a).trans (sgV_at ⟨a, ha⟩)
  have sB := (hSg b).trans (sgV_at ⟨b, hb⟩)
  have nA := (hLn a).trans (lnV_at ⟨a, ha⟩)
  have nB := (hLn b).trans (lnV_at ⟨b, hb⟩)
  dsimp only at sA sB nA nB
  clear hSg hLn
  unfold sgV lnV at *
  have haz : (a : Int) < 11 := by omega
  have hbz : (b : Int) < 11 := by omega
  go_enter Tryz.func7, Tryz.ntmps7
  go_wp2_with fail
  refine (cA _).mono ?_
  rintro e w1 ⟨rfl, rfl⟩
  go_wp2_with fail
  refine (cB _).mono ?_
  rintro e w1 ⟨rfl, rfl⟩
  go_wp2_with fail
  have hE2 := hE.later hb2
  generalize hw2 : (w.alloc _).alloc _ = w2 at *
  obtain ⟨SA, hSA⟩ : ∃ SA : ByteArray, (⟨(sgA.getD a []).toArray⟩ : ByteArray) = SA := ⟨_, rfl⟩
  obtain ⟨SB, hSB⟩ : ∃ SB : ByteArray, (⟨(sgA.getD b []).toArray⟩ : ByteArray) = SB := ⟨_, rfl⟩
  have zA : SA.size = (sgA.getD a []).length := by rw [← hSA]; simp [ByteArray.size]
  have zB : SB.size = (sgA.getD b []).length := by rw [← hSB]; simp [ByteArray.size]
  rw [hSA] at sA
  rw [hSB] at sB
  have hg2 : w.heap.size < w2.heap.size := by omega
  have hg22 : w.heap.size + 1 < w2.heap.size := by omega
  have HLA := Lib.hid la2
  have HLB := Lib.hid lb2
  have ZB := Lib.hid zB
  obtain ⟨R, hR⟩ := says_all (tightT a b)
  have hT : ((⟨#[120, 32]⟩ : ByteArray) ++ SA ++ (⟨#[32, 121, 32]⟩ : ByteArray) ++ SB ++ (⟨#[32, 122]⟩ : ByteArray)).data.toList = tightT a b := by
    rw [← hSA, ← hSB]; unfold tightT; simp
  have cP := fun w' (hb : Below w2.heap.size w2 w') => parse_vals ((⟨#[120, 32]⟩ : ByteArray) ++ SA ++ (⟨#[32, 121, 32]⟩ : ByteArray) ++ SB ++ (⟨#[32, 122]⟩ : ByteArray)) R w' (by rw [← size_list, hT]; omega) (hE2.later hb) (by rw [hT]; exact hR)
  have HR := Lib.hid hR
  have o1 : ¬ 9223372036854775807 < 2 + SA.size := by omega
  have o2 : ¬ 9223372036854775807 < 2 + SA.size + 3 := by omega
  have o3 : ¬ 9223372036854775807 < 2 + SA.size + 3 + SB.size := by omega
  have o4 : ¬ 9223372036854775807 < 2 + SA.size + 3 + SB.size + 2 := by omega
  have ZA := Lib.hid zA
  have HALL := Lib.hid hall
  have HSA := Lib.hid hSA
  have HSB := Lib.hid hSB
  clear cA cB hb1 hs1 hs2 hR hall zA zB hT htl hSA hSB la2 lb2 l4a l4b i0 i1 k0 k1
  have cP2 : ∀ q, Calls Tryz.prog 13 #[.string ((⟨#[120, 32]⟩ : ByteArray) ++ SA ++ (⟨#[32, 121, 32]⟩ : ByteArray) ++ SB ++ (⟨#[32, 122]⟩ : ByteArray))] ((w2.drewN q).alloc (.cells #[.int .i64 0, .int .i64 0, .string ⟨#[]⟩, .slice none 0 0] 25)) fun e w' => Below w2.heap.size w2 w' ∧ Four w' w2.heap.size (.int .i64 0) (.int .i64 0) (.string ⟨#[]⟩) (.slice none 0 0) ∧ ∃ op n z ao l c p f, e = .returned (.tuple #[EV op n z (.slice ao l c), .int .i64 p, .int .i64 f]) ∧ PaV (w2.heap.size + 1) w' R op n z ao l c p f := fun q => by
    refine (cP _ (below_drew (below_dr (Below.refl _ _) _) (Nat.le_refl _) _)).mono ?_
    rintro e wy ⟨hby, op, n, z, ao, l, c, p, f, rfl, hv⟩
    rw [alloc_size] at hv
    exact ⟨below_to (below_drew (below_dr (Below.refl _ _) q) (Nat.le_refl _) _) hby, (four_new (w2.drewN q) (.int .i64 0) (.int .i64 0) (.string ⟨#[]⟩) (.slice none 0 0) 25).later hby, op, n, z, ao, l, c, p, f, rfl, hv⟩
  have cP1 : ∀ q, Calls Tryz.prog 13 #[.string ((⟨#[120, 32]⟩ : ByteArray) ++ SA ++ (⟨#[32, 121, 32]⟩ : ByteArray) ++ SB ++ (⟨#[32, 122]⟩ : ByteArray))] (w2.drewN q) fun e w' => Below w2.heap.size w2 w' ∧ ∃ op n z ao l c p f, e = .returned (.tuple #[EV op n z (.slice ao l c), .int .i64 p, .int .i64 f]) ∧ PaV w2.heap.size w' R op n z ao l c p f := fun q => by
    refine (cP _ (below_dr (Below.refl _ _) _)).mono ?_
    rintro e wy ⟨hby, op, n, z, ao, l, c, p, f, rfl, hv⟩
    exact ⟨below_to (below_dr (Below.refl _ _) q) hby, op, n, z, ao, l, c, p, f, rfl, hv⟩
  clear cP
  go_cut [9, 10, 11] from 19 to 33 (fun s9 s10 s11 wx => ∃ (op n : Int) (z : ByteArray) (ao : Option Addr) (l c : Nat) (p f : Int) (gg : Nat), s9 = .pointer (some ⟨gg, 0, none⟩) ∧ s10 = .int .i64 p ∧ s11 = .int .i64 f ∧ Hid (w2.heap.size ≤ gg) ∧ Hid (Below w2.heap.size w2 wx) ∧ Hid (Four wx gg (.int .i64 op) (.int .i64 n) (.string z) (.slice ao l c)) ∧ Hid (PaV w2.heap.size wx R op n z ao l c p f))
  case first =>
    go_region_with (go_at_call 13; first | (refine (cP2 _).mono ?_; rintro e wy ⟨hby, ⟨uu, u0, u1, u2, u3, v0, v1, v2, v3⟩, op, n, z, ao, l, c, p, f, rfl, hv⟩) | (refine (cP1 _).mono ?_; rintro e wy ⟨hby, op, n, z, ao, l, c, p, f, rfl, hv⟩))
    all_goals
      go_wp2_with fail
      go_meet
      first
        | exact ⟨op, n, z, ao, l, c, p, f, wy.heap.size, rfl, rfl, rfl, Lib.hid hby.size, Lib.hid (below_drew hby (Nat.le_refl _) _), Lib.hid (four_new wy _ _ _ _ _), Lib.hid (hv.later (below_alloc wy _))⟩
        | exact ⟨op, n, z, ao, l, c, p, f, w2.heap.size, rfl, rfl, rfl, Lib.hid (Nat.le_refl _), Lib.hid (below_put4 hby (Nat.le_refl _) _ _ _ _), Lib.hid (set4_at ⟨uu, u0, u1, u2, u3, v0, v1, v2, v3⟩ _ _ _ _), Lib.hid ((hv.set4 (Nat.lt_succ_self _) _ _ _ _).wide (Nat.le_succ _))⟩
  case rest =>
    obtain ⟨op, n, z, ao, l, c, p, f, gg, rfl, rfl, rfl, Hg, HB, HF, HV⟩ := hcut
    have hBc := HB.out
    have hEc := hE2.later hBc
    have hg3 : w.heap.size < wc.heap.size := Nat.lt_of_lt_of_le hg2 hBc.size
    have sA3 : wc.cell? ⟨w.heap.size, a, none⟩ = some (.string SA) := by rw [hBc.cell (p := ⟨w.heap.size, a, none⟩) hg2]; exact sA
    have sB3 : wc.cell? ⟨w.heap.size, b, none⟩ = some (.string SB) := by rw [hBc.cell (p := ⟨w.heap.size, b, none⟩) hg2]; exact sB
    have nA3 : wc.cell? ⟨w.heap.size + 1, a, none⟩ = some (.int .i64 ((lnA.getD a 0 : Nat) : Int)) := by rw [hBc.cell (p := ⟨w.heap.size + 1, a, none⟩) hg22]; exact nA
    have nB3 : wc.cell? ⟨w.heap.size + 1, b, none⟩ = some (.int .i64 ((lnA.getD b 0 : Nat) : Int)) := by rw [hBc.cell (p := ⟨w.heap.size + 1, b, none⟩) hg22]; exact nB
    obtain ⟨la, hla⟩ : ∃ la : Nat, lnA.getD a 0 = la := ⟨_, rfl⟩
    obtain ⟨lb, hlb⟩ : ∃ lb : Nat, lnA.getD b 0 = lb := ⟨_, rfl⟩
    rw [hla] at nA3
    rw [hlb] at nB3
    have hO := HALL.out
    unfold tightO at hO
    rw [hla, hlb] at hO
    have HB0 := Lib.hid (below_to hb2 hBc)
    clear sA sB nA nB hBc cP1 cP2 o1 o2 o3 o4 hb2 hE2 hE HB
    by_cases h2 : la = 2 ∧ lb = 2
    · rw [if_pos h2] at hO
      obtain ⟨rfl, rfl⟩ := h2
      obtain rfl := says_one HR.out (outC_err hO)
      obtain ⟨rfl, rfl⟩ := HV.out
      have cW := awake_any wc hEc
      have hsz : (((5 + (sgA.getD a []).length : Nat) : Nat) : Int) = 5 + (SA.size : Int) := by have := ZA.out; omega
      have hs2 : SA.size ≤ 2 := by have := ZA.out; have := HLA.out; omega
      rw [hsz]
      clear hO hla hlb hsz
      go_wp2_with fail
      refine cW.mono ?_
      rintro e w4 ⟨rfl, b4⟩
      go_wp2_with fail
      go_ret
      exact ⟨rfl, below_to HB0.out b4⟩
    · rw [if_neg h2] at hO
      obtain ⟨E, hS, hW, hC⟩ := outC_ok hO
      obtain rfl := says_one HR.out hS
      obtain ⟨rfl, rfl, hx⟩ := HV.out
      obtain ⟨ao', c', hev, -⟩ := hx.get
      have cT := fun w' (hb : Below wc.heap.size wc w') => ptext_any E _ _ w' (hEc.later hb) (hx.later hb)
      rw [hC, if_pos rfl, hW] at cT
      have cW := fun w' (hb : Below wc.heap.size wc w') => awake_any w' (hEc.later hb)
      have hWs : (⟨(tightW a b).toArray⟩ : ByteArray) = if lb ≤ la then (⟨#[40, 40, 120, 32]⟩ : ByteArray) ++ SA ++ (⟨#[32, 121, 41, 32]⟩ : ByteArray) ++ SB ++ (⟨#[32, 122, 41]⟩ : ByteArray) else (⟨#[40, 120, 32]⟩ : ByteArray) ++ SA ++ (⟨#[32, 40, 121, 32]⟩ : ByteArray) ++ SB ++ (⟨#[32, 122, 41, 41]⟩ : ByteArray) := by
        rw [← HSA.out, ← HSB.out]
        unfold tightW
        rw [hla, hlb]
        by_cases hl : lb ≤ la
        · rw [if_pos hl, if_pos hl]; apply ByteArray.ext; simp
        · rw [if_neg hl, if_neg hl]; apply ByteArray.ext; simp
      rw [hWs] at cT
      have sa2 : SA.size ≤ 2 := by have := ZA.out; have := HLA.out; omega
      have sb2 : SB.size ≤ 2 := by have := ZB.out; have := HLB.out; omega
      have p1 : ¬ 9223372036854775807 < 3 + SA.size := by omega
      have p2 : ¬ 9223372036854775807 < 3 + SA.size + 4 := by omega
      have p3 : ¬ 9223372036854775807 < 3 + SA.size + 4 + SB.size := by omega
      have p4 : ¬ 9223372036854775807 < 3 + SA.size + 4 + SB.size + 4 := by omega
      have q1 : ¬ 9223372036854775807 < 4 + SA.size := by omega
      have q2 : ¬ 9223372036854775807 < 4 + SA.size + 4 := by omega
      have q3 : ¬ 9223372036854775807 < 4 + SA.size + 4 + SB.size := by omega
      have q4 : ¬ 9223372036854775807 < 4 + SA.size + 4 + SB.size + 3 := by omega
      have hF := HF.out
      obtain ⟨gl, y0, y1, y2, y3, -⟩ := hF
      have L2 := Lib.hid h2
      clear hO hS hW hC hla hlb hx hev HV hEc hWs sa2 sb2
      have key : (¬ la = 2) ∨ (la = 2 ∧ ¬ lb = 2) := by have := L2.out; omega
      by_cases hle : lb ≤ la
      · rw [if_pos hle] at cT
        have hlez : (lb : Int) ≤ (la : Int) := by omega
        rcases key with k1 | ⟨rfl, k2⟩
        · have k1z : ¬ (la : Int) = 2 := by omega
          have k1b : ((la : Int) == 2) = false := beq_eq_false_iff_ne.2 k1z
          clear h2
          go_wp2_with fail
          go_quiet (fail)
          go_wp2_with fail
          go_quiet (fail)
          go_wp2_with fail
          go_quiet (fail)
          go_wp2_with fail
          refine (cT _ (below_dr (Below.refl _ _) _)).mono ?_
          rintro e w5 ⟨rfl, b5⟩
          have B5 : Below wc.heap.size wc w5 := below_to (below_dr (Below.refl _ wc) _) b5
          have c6 := cW w5 B5
          clear cT cW b5
          go_wp2_with fail
          refine c6.mono ?_
          rintro e w6 ⟨rfl, b6⟩
          go_wp2_with fail
          go_ret
          exact ⟨rfl, below_to HB0.out (below_to B5 b6)⟩
        · have k2z : ¬ (lb : Int) = 2 := by omega
          have k2b : ((lb : Int) == 2) = false := beq_eq_false_iff_ne.2 k2z
          clear h2
          go_wp2_with fail
          go_quiet (fail)
          go_wp2_with fail
          go_quiet (fail)
          go_wp2_with fail
          go_quiet (fail)
          go_wp2_with fail
          refine (cT _ (below_dr (Below.refl _ _) _)).mono ?_
          rintro e w5 ⟨rfl, b5⟩
          have B5 : Below wc.heap.size wc w5 := below_to (below_dr (Below.refl _ wc) _) b5
          have c6 := cW w5 B5
          clear cT cW b5
          go_wp2_with fail
          refine c6.mono ?_
          rintro e w6 ⟨rfl, b6⟩
          go_wp2_with fail
          go_ret
          exact ⟨rfl, below_to HB0.out (below_to B5 b6)⟩
      · rw [if_neg hle] at cT
        have hlez : ¬ (lb : Int) ≤ (la : Int) := by omega
        rcases key with k1 | ⟨rfl, k2⟩
        · have k1z : ¬ (la : Int) = 2 := by omega
          have k1b : ((la : Int) == 2) = false := beq_eq_false_iff_ne.2 k1z
          clear h2
          go_wp2_with fail
          go_quiet (fail)
          go_wp2_with fail
          go_quiet (fail)
          go_wp2_with fail
          refine (cT _ (below_dr (Below.refl _ _) _)).mono ?_
          rintro e w5 ⟨rfl, b5⟩
          have B5 : Below wc.heap.size wc w5 := below_to (below_dr (Below.refl _ wc) _) b5
          have c6 := cW w5 B5
          clear cT cW b5
          go_wp2_with fail
          refine c6.mono ?_
          rintro e w6 ⟨rfl, b6⟩
          go_wp2_with fail
          go_ret
          exact ⟨rfl, below_to HB0.out (below_to B5 b6)⟩
        · have k2z : ¬ (lb : Int) = 2 := by omega
          have k2b : ((lb : Int) == 2) = false := beq_eq_false_iff_ne.2 k2z
          clear h2
          go_wp2_with fail
          go_quiet (fail)
          go_wp2_with fail
          go_quiet (fail)
          go_wp2_with fail
          refine (cT _ (below_dr (Below.refl _ _) _)).mono ?_
          rintro e w5 ⟨rfl, b5⟩
          have B5 : Below wc.heap.size wc w5 := below_to (below_dr (Below.refl _ wc) _) b5
          have c6 := cW w5 B5
          clear cT cW b5
          go_wp2_with fail
          refine c6.mono ?_
          rintro e w6 ⟨rfl, b6⟩
          go_wp2_with fail
          go_ret
          exact ⟨rfl, below_to HB0.out (below_to B5 b6)⟩
open Go.ChangeShapes Go.WideShapes Go.ChangeAt Go.RowKit Go.Lib Go.Shelf
set_option maxRecDepth 1000000 in
theorem parsetight_lifted (os : Os) (started : os.Started) (H : Type) (enc : TypeId × Value → H) :
    ReturnsInHanded {} Tryz.checked os 7 .any (fun w args => (Rows.parseTightSpec.pre enc Tryz.prog Tryz.f7 [] false w args ∧ laidMetH Tryz.prog tabsLaid8 w) ∧ sizedMet enc Tryz.prog Tryz.f7 (OpenSpec.ofChange Rows.parseTightSpec) false w args)
      (Rows.parseTightSpec.post enc Tryz.prog Tryz.f7 false true false false) := by
  refine returnsInHanded_of_change_and (C := Tryz.checked) (X := fun w _ => laidMetH Tryz.prog tabsLaid8 w) (fun _ _ _ hh h => h.of_heap hh) own started (by kernel_rfl) Tryz.func7
    (ChangeSpec.witness_shaped (enc := enc) (C := Tryz.checked) (os := os) (X := fun w _ => laidMetH Tryz.prog tabsLaid8 w) false (World.laidAll Tryz.prog os tabsLaid8) #[.int .i64 0, .int .i64 0] 8 (World.laidAll_os _ _ _)
      (World.shaped_of_ZipB (by kernel_rfl) (by kernel_rfl)) (by kernel_rfl) (by kernel_rfl) (by kernel_rfl) (start_met8 os _)) ?_
  intro W base args ds gs before hval0 hW _ hsz0 hL _
  have hsz := hsz0
  have hval : ∀ (j : Nat) t v, Tryz.f7.params[j]? = some t → args[j]? = some v → Value.okWide Tryz.prog W .any base t v := hval0
  have hW' := hW
  obtain ⟨p, q, hA0, hV, rfl, _, _⟩ := hW
  have hA : DataW.TrodAll enc Tryz.prog W 0 (fun _ => true) true Tryz.f7.params.toList args.toList ds p := hA0
  rw [Tryz.params7] at hA hval
  obtain ⟨v0, v1, d0, d1, p0, p1, rfl, rfl, rfl, h0, h1⟩ := trodAll_two hA
  obtain ⟨rfl, rfl⟩ := trodVars_none hV
  obtain ⟨x0, rfl, rfl, rfl, wx0⟩ := open_int Tryz.underlying3 (hval 0 3 v0 rfl rfl) h0
  obtain ⟨x1, rfl, rfl, rfl, wx1⟩ := open_int Tryz.underlying3 (hval 1 3 v1 rfl rfl) h1
  simp only [List.append_nil] at hW'
  refine (parsetight_walk x0 x1 W (bounds_i64 wx0).1 (bounds_i64 wx0).2 (bounds_i64 wx1).1 (bounds_i64 wx1).2 (envP_of_laid hL)).mono fun e W' ⟨he, hb⟩ => ?_
  subst he
  exact ⟨_, rfl, _, _, _, [], _, [], hW', trodAll_mk1 (shut_bool Tryz.underlying4 _), trodAll_mk2 (shut_int Tryz.underlying3 wx0) (shut_int Tryz.underlying3 wx1), rfl, hb.frame _, fun h => by cases h⟩

theorem parsetight_holds : Rows.ParseTightSaid :=
  OpenClaim.holds_of_wide 7 Tryz.f7 rfl rfl rfl rfl rfl rfl rfl ⟨rfl, rfl, rfl, rfl, rfl⟩ rfl rfl rfl rfl rfl (by kernel_rfl) Tryz.func7 (by kernel_rfl)
    (of_decide_eq_true (by kernel_rfl)) (by unfold Func.isWrapper; first | (rw [if_pos (by decide +kernel)]; kernel_rfl) | (rw [if_neg (by decide +kernel)]; exact ⟨rfl, rfl⟩))
    (fun os started H enc _ => parsetight_lifted os started H enc)

theorem parsetight_card : Rows.ParseTightCardSaid :=
  Claim7.holds_tied_plain_at .later [] [.data, .data, .data, .data, .sentinel, .sentinel, .data, .pinned] true _ true
    parsetight_holds (fun _ h => by cases h) (by kernel_rfl) (fun _ h => by cases h) parseTight_row_tie rfl ⟨rfl, rfl⟩ (by kernel_rfl) rfl
    (fun f fn hf hfn => by
      obtain rfl : f = 7 := Option.some.inj ((show Tryz.prog.funcNamed "palaver/palaverlaw07.ParseTight" = some 7 by kernel_rfl).symm.trans hf) |>.symm
      obtain rfl : fn = Tryz.f7 := (Option.some.inj (Tryz.func7.symm.trans hfn)).symm
      exact ⟨by kernel_rfl, fun j t ht => by
        rw [Tryz.params7] at ht
        have hm : t ∈ [3, 3] := by simpa using Array.mem_of_getElem? ht
        have hall : ([3, 3].all fun u => !Tryz.prog.wantsStandIn u) = true := by kernel_rfl
        exact (show Tryz.prog.wantsStandIn t = false by simpa using List.all_eq_true.1 hall t hm)⟩)
    (by kernel_rfl)
end Go.Proofs.YtophiadpafbahaaGreatDoor
