/- The contract of the document's own escape: what stands behind a backslash. -/
import Derived.Test.YtepppianhafdjaaGreatDoorGF
namespace Go.Proofs.YtepppianhafdjaaGreatDoor
open Go.RowKit

/-- What is told of a backslash. -/
def LEsc (w : World) (g : Nat) (t : ByteArray) (P : List Pc) (ao : Option Addr) (cap k : Nat) (o : Option (Nat × Nat)) (e : Ending) (w' : World) : Prop :=
  Away g w w' ∧ match o with
  | none => ∃ v : Int, e = .returned (.tuple #[.int .i32 v, .bool false])
  | some q => e = .returned (.tuple #[.int .i32 (q.1 : Int), .bool true]) ∧ LR w' g t P ao cap (k + q.2)
theorem LEsc.no {w w' : World} {g : Nat} {t : ByteArray} {P : List Pc} {ao : Option Addr} {cap k : Nat} {o : Option (Nat × Nat)} (h : Away g w w') (v : Int) (ho : o = none) : LEsc w g t P ao cap k o (.returned (.tuple #[.int .i32 v, .bool false])) w' := by
  subst ho; exact ⟨h, v, rfl⟩
theorem LEsc.yes {w w' : World} {g : Nat} {t : ByteArray} {P : List Pc} {ao : Option Addr} {cap k n : Nat} {o : Option (Nat × Nat)} {r m : Nat} {z : Int} (h : LA w w' g t P ao cap n) (ho : o = some (r, m)) (hz : z = (r : Int)) (hn : n = k + m) : LEsc w g t P ao cap k o (.returned (.tuple #[.int .i32 z, .bool true])) w' := by
  subst ho hz hn; exact ⟨h.2.1, rfl, h.1⟩
theorem hex_dec {r : Nat} (h : 48 ≤ r ∧ r ≤ 57) : hexV r = some (r - 48) := by unfold hexV; rw [if_pos h]
theorem hex_let {r : Nat} (h : 97 ≤ r ∧ r ≤ 102) : hexV r = some (r - 87) := by unfold hexV; rw [if_neg (by omega), if_pos h]
theorem hex_no {r : Nat} (h : ¬ (48 ≤ r ∧ r ≤ 57)) (h2 : ¬ (97 ≤ r ∧ r ≤ 102)) : hexV r = none := by unfold hexV; rw [if_neg h, if_neg h2]
theorem digsF_step (n v : Nat) (x : Pc) (R : List Pc) : digsF (n + 1) v (x :: R) = match hexV x.1 with | none => none | some d => digsF n (v * 16 + d) R := by
  conv => lhs; unfold digsF
  cases hexV x.1 <;> rfl
theorem escF_u {x : Pc} {R : List Pc} (h : x.1 = 117) : escF (x :: R) = match digsF 4 0 R with | some v => if 55296 ≤ v ∧ v ≤ 57343 then none else some (v, 5) | none => none := by
  unfold escF; dsimp only; rw [if_neg (by omega), if_pos h]
  cases digsF 4 0 R <;> rfl

set_option maxHeartbeats 4000000 in
set_option maxRecDepth 100000 in
theorem lesc_any (g : Nat) (t : ByteArray) (P : List Pc) (ao : Option Addr) (cap k : Nat) (w : World) (h : LR w g t P ao cap k) (hl : P.length ≤ 1000) :
    Calls Tryz.prog 159 #[.pointer (some ⟨g, 0, none⟩)] w (LEsc w g t P ao cap k (escF (P.drop k))) := by
  obtain ⟨c0, c1, c2, f2⟩ := h.cells
  have HA := Lib.hid (LA.start h)
  obtain ⟨O, hO⟩ : ∃ O, escF (P.drop k) = O := ⟨_, rfl⟩
  rw [hO]
  by_cases hk : k < P.length
  · obtain ⟨x, hx⟩ : ∃ x, P[k]? = some x := ⟨_, List.getElem?_eq_getElem hk⟩
    obtain ⟨b, rfl, -, -, p2, -⟩ := h.piece hx
    rw [drop_at hx] at hO
    have hkz : ¬ (P.length : Int) ≤ (k : Int) := by omega
    obtain ⟨r, hr⟩ : ∃ r, x.1 = r := ⟨_, rfl⟩
    rw [hr] at p2
    by_cases h1 : r = 34 ∨ r = 92
    · have ho : O = some (r, 1) := by rw [← hO]; unfold escF; dsimp only; rw [hr, if_pos h1]
      have HO := Lib.hid ho
      have hr1 : (((r : Int) == 34) || ((r : Int) == 92)) = true := by
        rcases h1 with rfl | rfl <;> rfl
      clear hO hx h hr ho
      rcases h1 with rfl | rfl
      all_goals
        go_enter Tryz.func159, Tryz.ntmps159
        go_wp2_with fail
        go_quiet (fail)
        go_wp2_with fail
        go_quiet (fail)
        go_wp2_with fail
        go_ret2
        exact LEsc.yes ((HA.out.q _).goes (n := k + 1) (by omega) (by omega)) HO.out (by omega) rfl
    · by_cases h2 : r = 117
      · have ho := escF_u (R := P.drop (k + 1)) (hr.trans h2)
        rw [hO] at ho
        have HO := Lib.hid ho
        have hn1 : ((r : Int) == 34) = false := beq_eq_false_iff_ne.2 (by omega)
        have hn2 : ((r : Int) == 92) = false := beq_eq_false_iff_ne.2 (by omega)
        have hn3 : ((r : Int) == 117) = true := by rw [h2]; rfl
        have hn4 : ((r : Int) != 117) = false := by rw [h2]; rfl
        have hd0 : decide (P.length ≤ k) = false := decide_eq_false (by omega)
        clear hO hx h hr ho h1 h2
        go_enter Tryz.func159, Tryz.ntmps159
        go_wp2_with fail
        go_quiet (fail)
        go_wp2_with fail
        go_quiet (fail)
        go_wp2_with fail
        go_loopg [5, 6] (4) (fun n s5 s6 wr => ∃ j v : Nat, j + n = 4 ∧ s5 = .int .i32 (v : Int) ∧ s6 = .int .i64 (j : Int) ∧ Hid (LA w wr g t P (some ⟨b, 0, none⟩) cap (k + 1 + j)) ∧ Hid (digsF 4 0 (P.drop (k + 1)) = digsF n v (P.drop (k + 1 + j))) ∧ (v + 1) * 16 ^ n ≤ 65536)
        case atStart => exact ⟨0, 0, rfl, rfl, rfl, Lib.hid ((HA.out.q _).goes (n := k + 1) (by omega) (by omega)), Lib.hid rfl, by decide⟩
        case round =>
          obtain ⟨j, v, hj, rfl, rfl, HA3, HD, hv⟩ := hrel
          clear c0 c1 c2 f2 p2 HA hkz hn1 hn2 hn3
          obtain ⟨c0, c1, c2, f2⟩ := HA3.out.1.cells
          cases gk with
          | zero =>
            obtain rfl : j = 4 := by omega
            have ho := HO.out
            rw [HD.out] at ho
            unfold digsF at ho
            dsimp only at ho
            have hv6 : v < 65536 := by simp only [Nat.pow_zero] at hv; omega
            have HA4 := Lib.hid HA3.out
            clear hv HD
            by_cases hs1 : 55296 ≤ v
            · by_cases hs2 : v ≤ 57343
              · rw [if_pos ⟨hs1, hs2⟩] at ho
                have hz1 : ¬ (v : Int) < 55296 := by omega
                have hz2 : ¬ (57343 : Int) < (v : Int) := by omega
                have HO2 := Lib.hid ho
                clear ho
                go_wp2_with fail
                go_ret2
                exact LEsc.no HA4.out.2.1 _ HO2.out
              · rw [if_neg (fun h => hs2 h.2)] at ho
                have hz1 : ¬ (v : Int) < 55296 := by omega
                have hz2 : (57343 : Int) < (v : Int) := by omega
                have HO2 := Lib.hid ho
                clear ho
                go_wp2_with fail
                go_ret2
                exact LEsc.yes HA4.out HO2.out rfl rfl
            · rw [if_neg (fun h => hs1 h.1)] at ho
              have hz1 : (v : Int) < 55296 := by omega
              have HO2 := Lib.hid ho
              clear ho
              go_wp2_with fail
              go_ret2
              exact LEsc.yes HA4.out HO2.out rfl rfl
          | succ n =>
            have hj4 : (j : Int) < 4 := by omega
            by_cases hk2 : k + 1 + j < P.length
            · obtain ⟨y, hy⟩ : ∃ y, P[k + 1 + j]? = some y := ⟨_, List.getElem?_eq_getElem hk2⟩
              obtain ⟨b2, e2, -, -, p2, -⟩ := HA3.out.1.piece hy
              injection e2 with e2
              injection e2 with e2
              subst e2
              have hd := HD.out
              rw [drop_at hy, digsF_step] at hd
              have hkz : ¬ (P.length : Int) ≤ ((k + 1 + j : Nat) : Int) := by omega
              obtain ⟨c, hc⟩ : ∃ c, y.1 = c := ⟨_, rfl⟩
              rw [hc] at p2 hd
              obtain ⟨K, hK⟩ : ∃ K, k + 1 + j = K := ⟨_, rfl⟩
              rw [hK] at p2 c2 hk2 hkz hd
              have HK := Lib.hid hK
              have HA4 := Lib.hid (hK ▸ HA3.out)
              clear hy hc HD hK HA3
              by_cases hx1 : 48 ≤ c ∧ c ≤ 57
              · rw [hex_dec hx1] at hd
                dsimp only at hd
                obtain ⟨hv4, hv2⟩ := esc_next v (c - 48) n hv (by omega)
                have hz1 : (48 : Int) ≤ (c : Int) := by omega
                have hz2 : (c : Int) ≤ 57 := by omega
                have HD2 := Lib.hid hd
                have HV := Lib.hid hv2
                clear hd hv2 hv
                go_wp2_with fail
                go_quiet (fail)
                go_wp2_with fail
                go_quiet (fail)
                go_wp2_with fail
                go_roundg n
                case measure => omega
                case rel =>
                  have hK := HK.out
                  refine ⟨j + 1, v * 16 + (c - 48), by omega, by congr 1; omega, by go_num, Lib.hid ?_, Lib.hid ?_, HV.out⟩
                  · rw [show k + 1 + (j + 1) = K + 1 by omega]
                    first
                    | exact (HA4.out.q _).goes (by omega) (by omega)
                    | exact ((HA4.out.q _).q _).goes (by omega) (by omega)
                  · rw [show k + 1 + (j + 1) = K + 1 by omega]; exact HD2.out
              · by_cases hx2 : 97 ≤ c ∧ c ≤ 102
                · rw [hex_let hx2] at hd
                  dsimp only at hd
                  obtain ⟨hv4, hv2⟩ := esc_next v (c - 87) n hv (by omega)
                  have hz1 : (48 : Int) ≤ (c : Int) := by omega
                  have hz2 : ¬ (c : Int) ≤ 57 := by omega
                  have hz3 : (97 : Int) ≤ (c : Int) := by omega
                  have hz4 : (c : Int) ≤ 102 := by omega
                  have HD2 := Lib.hid hd
                  have HV := Lib.hid hv2
                  clear hd hv2 hv
                  go_wp2_with fail
                  go_quiet (fail)
                  go_wp2_with fail
                  go_quiet (fail)
                  go_wp2_with fail
                  go_roundg n
                  case measure => omega
                  case rel =>
                    have hK := HK.out
                    refine ⟨j + 1, v * 16 + (c - 87), by omega, by congr 1; omega, by go_num, Lib.hid ?_, Lib.hid ?_, HV.out⟩
                    · rw [show k + 1 + (j + 1) = K + 1 by omega]
                      first
                      | exact (HA4.out.q _).goes (by omega) (by omega)
                      | exact ((HA4.out.q _).q _).goes (by omega) (by omega)
                    · rw [show k + 1 + (j + 1) = K + 1 by omega]; exact HD2.out
                · rw [hex_no hx1 hx2] at hd
                  dsimp only at hd
                  have ho := HO.out
                  rw [hd] at ho
                  dsimp only at ho
                  have HO2 := Lib.hid ho
                  clear hd ho hv HO
                  by_cases hy1 : 48 ≤ c
                  · have hz1 : (48 : Int) ≤ (c : Int) := by omega
                    have hz2 : ¬ (c : Int) ≤ 57 := by omega
                    by_cases hy2 : 97 ≤ c
                    · have hz3 : (97 : Int) ≤ (c : Int) := by omega
                      have hz4 : ¬ (c : Int) ≤ 102 := by omega
                      go_wp2_with fail
                      go_quiet (fail)
                      go_wp2_with fail
                      go_quiet (fail)
                      go_wp2_with fail
                      go_ret2
                      exact LEsc.no (by first | exact ((HA4.out.q _).set (n := K + 1) (by omega)).2.1 | exact ((((HA4.out.q _).q _).goes (n := K + 1) (by omega) (by omega))).2.1 | exact (((HA4.out.q _).goes (n := K + 1) (by omega) (by omega))).2.1) _ HO2.out
                    · have hz3 : ¬ (97 : Int) ≤ (c : Int) := by omega
                      go_wp2_with fail
                      go_quiet (fail)
                      go_wp2_with fail
                      go_quiet (fail)
                      go_wp2_with fail
                      go_ret2
                      exact LEsc.no (by first | exact ((((HA4.out.q _).q _).goes (n := K + 1) (by omega) (by omega))).2.1 | exact (((HA4.out.q _).goes (n := K + 1) (by omega) (by omega))).2.1) _ HO2.out
                  · have hz1 : ¬ (48 : Int) ≤ (c : Int) := by omega
                    have hz3 : ¬ (97 : Int) ≤ (c : Int) := by omega
                    go_wp2_with fail
                    go_quiet (fail)
                    go_wp2_with fail
                    go_quiet (fail)
                    go_wp2_with fail
                    go_ret2
                    exact LEsc.no (by first | exact ((((HA4.out.q _).q _).goes (n := K + 1) (by omega) (by omega))).2.1 | exact (((HA4.out.q _).goes (n := K + 1) (by omega) (by omega))).2.1) _ HO2.out
            · have hd2 : digsF 4 0 (P.drop (k + 1)) = none := by
                rw [HD.out, List.drop_of_length_le (show P.length ≤ k + 1 + j by omega)]; rfl
              have ho := HO.out
              rw [hd2] at ho
              dsimp only at ho
              have HO2 := Lib.hid ho
              have hkz : (P.length : Int) ≤ ((k + 1 + j : Nat) : Int) := by omega
              obtain ⟨K, hK⟩ : ∃ K, k + 1 + j = K := ⟨_, rfl⟩
              rw [hK] at c2 hkz
              have HA4 := Lib.hid HA3.out
              clear hd2 ho HD HA3 hv hK hk2
              go_wp2_with fail
              go_quiet (fail)
              go_wp2_with fail
              go_ret2
              exact LEsc.no (by first | exact (HA4.out.q _).2.1 | exact ((HA4.out.q _).q _).2.1) _ HO2.out
      · have ho : O = none := by rw [← hO]; unfold escF; dsimp only; rw [hr, if_neg h1, if_neg h2]
        have HO := Lib.hid ho
        have hn1 : ((r : Int) == 34) = false := beq_eq_false_iff_ne.2 (by omega)
        have hn2 : ((r : Int) == 92) = false := beq_eq_false_iff_ne.2 (by omega)
        have hn3 : ((r : Int) == 117) = false := beq_eq_false_iff_ne.2 (by omega)
        clear hO hx h hr ho h1 h2
        go_enter Tryz.func159, Tryz.ntmps159
        go_wp2_with fail
        go_quiet (fail)
        go_wp2_with fail
        go_quiet (fail)
        go_wp2_with fail
        go_ret2
        exact LEsc.no ((HA.out.q _).goes (n := k + 1) (by omega) (by omega)).2.1 _ HO.out
  · have ho : O = none := by rw [← hO, List.drop_of_length_le (by omega)]; rfl
    have HO := Lib.hid ho
    have hkz : (P.length : Int) ≤ (k : Int) := by omega
    clear hO h ho
    go_enter Tryz.func159, Tryz.ntmps159
    go_wp2_with fail
    go_quiet (fail)
    go_wp2_with fail
    go_ret2
    exact LEsc.no (HA.out.q _).2.1 _ HO.out
end Go.Proofs.YtepppianhafdjaaGreatDoor
