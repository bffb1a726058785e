/- Several texts in one: LexEsc, LexNam. -/
import Derived.Test.YtkbeemkmcnfiiaaGreatDoorGF
import Derived.Test.YtkbeemkmcnfiiaaGreatDoorGE
namespace Go.Proofs.YtkbeemkmcnfiiaaGreatDoor
/- The contract of the document's own escape: what stands behind a backslash. -/
section
open Go.RowKit

/-- What is told of a backslash. -/
def LEsc (w : World) (g : Nat) (t : ByteArray) (P : List Pc) (ao : Option Addr) (cap k : Nat) (o : Option (Nat × Nat)) (e : Ending) (w' : World) : Prop :=
  Away g w w' ∧ match o with
  | none => ∃ v : Int, e = .returned (.tuple #[.int .i32 v, .bool false])
  | some q => e = .returned (.tuple #[.int .i32 (q.1 : Int), .bool true]) ∧ LR w' g t P ao cap (k + q.2)
theorem LEsc.no {w w' : World} {g : Nat} {t : ByteArray} {P : List Pc} {ao : Option Addr} {cap k : Nat} {o : Option (Nat × Nat)} (h : Away g w w') (v : Int) (ho : o = none) : LEsc w g t P ao cap k o (.returned (.tuple #[.int .i32 v, .bool false])) w' := by
  subst ho; exact ⟨h, v, rfl⟩
theorem LEsc.yes {w w' : World} {g : Nat} {t : ByteArray} {P : List Pc} {ao : Option Addr} {cap k n : Nat} {o : Option (Nat × Nat)} {r m : Nat} {z : Int} (h : LA w w' g t P ao cap n) (ho : o = some (r, m)) (hz : z = (r : Int)) (hn : n = k + m) : LEsc w g t P ao cap k o (.returned (.tuple #[.int .i32 z, .bool true])) w' := by
  subst ho hz hn; exact ⟨h.2.1, rfl, h.1⟩
theorem hex_dec {r : Nat} (h : 48 ≤ r ∧ r ≤ 57) : hexV r = some (r - 48) := by unfold hexV; rw [if_pos h]
theorem hex_let {r : Nat} (h : 97 ≤ r ∧ r ≤ 102) : hexV r = some (r - 87) := by unfold hexV; rw [if_neg (by omega), if_pos h]
theorem hex_no {r : Nat} (h : ¬ (48 ≤ r ∧ r ≤ 57)) (h2 : ¬ (97 ≤ r ∧ r ≤ 102)) : hexV r = none := by unfold hexV; rw [if_neg h, if_neg h2]
theorem digsF_step (n v : Nat) (x : Pc) (R : List Pc) : digsF (n + 1) v (x :: R) = match hexV x.1 with | none => none | some d => digsF n (v * 16 + d) R := by
  conv => lhs; unfold digsF
  cases hexV x.1 <;> rfl
theorem escF_u {x : Pc} {R : List Pc} (h : x.1 = 117) : escF (x :: R) = match digsF 4 0 R with | some v => if 55296 ≤ v ∧ v ≤ 57343 then none else some (v, 5) | none => none := by
  unfold escF; dsimp only; rw [if_neg (by omega), if_pos h]
  cases digsF 4 0 R <;> rfl

set_option maxHeartbeats 4000000 in
set_option maxRecDepth 100000 in
theorem lesc_any (g : Nat) (t : ByteArray) (P : List Pc) (ao : Option Addr) (cap k : Nat) (w : World) (h : LR w g t P ao cap k) (hl : P.length ≤ 1000) :
    Calls Tryz.prog 83 #[.pointer (some ⟨g, 0, none⟩)] w (LEsc w g t P ao cap k (escF (P.drop k))) := by
  obtain ⟨c0, c1, c2, f2⟩ := h.cells
  have HA := Lib.hid (LA.start h)
  obtain ⟨O, hO⟩ : ∃ O, escF (P.drop k) = O := ⟨_, rfl⟩
  rw [hO]
  by_cases hk : k < P.length
  · obtain ⟨x, hx⟩ : ∃ x, P[k]? = some x := ⟨_, List.getElem?_eq_getElem hk⟩
    obtain ⟨b, rfl, -, -, p2, -⟩ := h.piece hx
    rw [drop_at hx] at hO
    have hkz : ¬ (P.length : Int) ≤ (k : Int) := by omega
    obtain ⟨r, hr⟩ : ∃ r, x.1 = r := ⟨_, rfl⟩
    rw [hr] at p2
    by_cases h1 : r = 34 ∨ r = 92
    · have ho : O = some (r, 1) := by rw [← hO]; unfold escF; dsimp only; rw [hr, if_pos h1]
      have HO := Lib.hid ho
      have hr1 : (((r : Int) == 34) || ((r : Int) == 92)) = true := by
        rcases h1 with rfl | rfl <;> rfl
      clear hO hx h hr ho
      rcases h1 with rfl | rfl
      all_goals
        go_enter Tryz.func83, Tryz.ntmps83
        go_wp2_with fail
        go_quiet (fail)
        go_wp2_with fail
        go_quiet (fail)
        go_wp2_with fail
        go_ret2
        exact LEsc.yes ((HA.out.q _).goes (n := k + 1) (by omega) (by omega)) HO.out (by omega) rfl
    · by_cases h2 : r = 117
      · have ho := escF_u (R := P.drop (k + 1)) (hr.trans h2)
        rw [hO] at ho
        have HO := Lib.hid ho
        have hn1 : ((r : Int) == 34) = false := beq_eq_false_iff_ne.2 (by omega)
        have hn2 : ((r : Int) == 92) = false := beq_eq_false_iff_ne.2 (by omega)
        have hn3 : ((r : Int) == 117) = true := by rw [h2]; rfl
        have hn4 : ((r : Int) != 117) = false := by rw [h2]; rfl
        have hd0 : decide (P.length ≤ k) = false := decide_eq_false (by omega)
        clear hO hx h hr ho h1 h2
        go_enter Tryz.func83, Tryz.ntmps83
        go_wp2_with fail
        go_quiet (fail)
        go_wp2_with fail
        go_quiet (fail)
        go_wp2_with fail
        go_loopg [5, 6] (4) (fun n s5 s6 wr => ∃ j v : Nat, j + n = 4 ∧ s5 = .int .i32 (v : Int) ∧ s6 = .int .i64 (j : Int) ∧ Hid (LA w wr g t P (some ⟨b, 0, none⟩) cap (k + 1 + j)) ∧ Hid (digsF 4 0 (P.drop (k + 1)) = digsF n v (P.drop (k + 1 + j))) ∧ (v + 1) * 16 ^ n ≤ 65536)
        case atStart => exact ⟨0, 0, rfl, rfl, rfl, Lib.hid ((HA.out.q _).goes (n := k + 1) (by omega) (by omega)), Lib.hid rfl, by decide⟩
        case round =>
          obtain ⟨j, v, hj, rfl, rfl, HA3, HD, hv⟩ := hrel
          clear c0 c1 c2 f2 p2 HA hkz hn1 hn2 hn3
          obtain ⟨c0, c1, c2, f2⟩ := HA3.out.1.cells
          cases gk with
          | zero =>
            obtain rfl : j = 4 := by omega
            have ho := HO.out
            rw [HD.out] at ho
            unfold digsF at ho
            dsimp only at ho
            have hv6 : v < 65536 := by simp only [Nat.pow_zero] at hv; omega
            have HA4 := Lib.hid HA3.out
            clear hv HD
            by_cases hs1 : 55296 ≤ v
            · by_cases hs2 : v ≤ 57343
              · rw [if_pos ⟨hs1, hs2⟩] at ho
                have hz1 : ¬ (v : Int) < 55296 := by omega
                have hz2 : ¬ (57343 : Int) < (v : Int) := by omega
                have HO2 := Lib.hid ho
                clear ho
                go_wp2_with fail
                go_ret2
                exact LEsc.no HA4.out.2.1 _ HO2.out
              · rw [if_neg (fun h => hs2 h.2)] at ho
                have hz1 : ¬ (v : Int) < 55296 := by omega
                have hz2 : (57343 : Int) < (v : Int) := by omega
                have HO2 := Lib.hid ho
                clear ho
                go_wp2_with fail
                go_ret2
                exact LEsc.yes HA4.out HO2.out rfl rfl
            · rw [if_neg (fun h => hs1 h.1)] at ho
              have hz1 : (v : Int) < 55296 := by omega
              have HO2 := Lib.hid ho
              clear ho
              go_wp2_with fail
              go_ret2
              exact LEsc.yes HA4.out HO2.out rfl rfl
          | succ n =>
            have hj4 : (j : Int) < 4 := by omega
            by_cases hk2 : k + 1 + j < P.length
            · obtain ⟨y, hy⟩ : ∃ y, P[k + 1 + j]? = some y := ⟨_, List.getElem?_eq_getElem hk2⟩
              obtain ⟨b2, e2, -, -, p2, -⟩ := HA3.out.1.piece hy
              injection e2 with e2
              injection e2 with e2
              subst e2
              have hd := HD.out
              rw [drop_at hy, digsF_step] at hd
              have hkz : ¬ (P.length : Int) ≤ ((k + 1 + j : Nat) : Int) := by omega
              obtain ⟨c, hc⟩ : ∃ c, y.1 = c := ⟨_, rfl⟩
              rw [hc] at p2 hd
              obtain ⟨K, hK⟩ : ∃ K, k + 1 + j = K := ⟨_, rfl⟩
              rw [hK] at p2 c2 hk2 hkz hd
              have HK := Lib.hid hK
              have HA4 := Lib.hid (hK ▸ HA3.out)
              clear hy hc HD hK HA3
              by_cases hx1 : 48 ≤ c ∧ c ≤ 57
              · rw [hex_dec hx1] at hd
                dsimp only at hd
                obtain ⟨hv4, hv2⟩ := esc_next v (c - 48) n hv (by omega)
                have hz1 : (48 : Int) ≤ (c : Int) := by omega
                have hz2 : (c : Int) ≤ 57 := by omega
                have HD2 := Lib.hid hd
                have HV := Lib.hid hv2
                clear hd hv2 hv
                go_wp2_with fail
                go_quiet (fail)
                go_wp2_with fail
                go_quiet (fail)
                go_wp2_with fail
                go_roundg n
                case measure => omega
                case rel =>
                  have hK := HK.out
                  refine ⟨j + 1, v * 16 + (c - 48), by omega, by congr 1; omega, by go_num, Lib.hid ?_, Lib.hid ?_, HV.out⟩
                  · rw [show k + 1 + (j + 1) = K + 1 by omega]
                    first
                    | exact (HA4.out.q _).goes (by omega) (by omega)
                    | exact ((HA4.out.q _).q _).goes (by omega) (by omega)
                  · rw [show k + 1 + (j + 1) = K + 1 by omega]; exact HD2.out
              · by_cases hx2 : 97 ≤ c ∧ c ≤ 102
                · rw [hex_let hx2] at hd
                  dsimp only at hd
                  obtain ⟨hv4, hv2⟩ := esc_next v (c - 87) n hv (by omega)
                  have hz1 : (48 : Int) ≤ (c : Int) := by omega
                  have hz2 : ¬ (c : Int) ≤ 57 := by omega
                  have hz3 : (97 : Int) ≤ (c : Int) := by omega
                  have hz4 : (c : Int) ≤ 102 := by omega
                  have HD2 := Lib.hid hd
                  have HV := Lib.hid hv2
                  clear hd hv2 hv
                  go_wp2_with fail
                  go_quiet (fail)
                  go_wp2_with fail
                  go_quiet (fail)
                  go_wp2_with fail
                  go_roundg n
                  case measure => omega
                  case rel =>
                    have hK := HK.out
                    refine ⟨j + 1, v * 16 + (c - 87), by omega, by congr 1; omega, by go_num, Lib.hid ?_, Lib.hid ?_, HV.out⟩
                    · rw [show k + 1 + (j + 1) = K + 1 by omega]
                      first
                      | exact (HA4.out.q _).goes (by omega) (by omega)
                      | exact ((HA4.out.q _).q _).goes (by omega) (by omega)
                    · rw [show k + 1 + (j + 1) = K + 1 by omega]; exact HD2.out
                · rw [hex_no hx1 hx2] at hd
                  dsimp only at hd
                  have ho := HO.out
                  rw [hd] at ho
                  dsimp only at ho
                  have HO2 := Lib.hid ho
                  clear hd ho hv HO
                  by_cases hy1 : 48 ≤ c
                  · have hz1 : (48 : Int) ≤ (c : Int) := by omega
                    have hz2 : ¬ (c : Int) ≤ 57 := by omega
                    by_cases hy2 : 97 ≤ c
                    · have hz3 : (97 : Int) ≤ (c : Int) := by omega
                      have hz4 : ¬ (c : Int) ≤ 102 := by omega
                      go_wp2_with fail
                      go_quiet (fail)
                      go_wp2_with fail
                      go_quiet (fail)
                      go_wp2_with fail
                      go_ret2
                      exact LEsc.no (by first | exact ((HA4.out.q _).set (n := K + 1) (by omega)).2.1 | exact ((((HA4.out.q _).q _).goes (n := K + 1) (by omega) (by omega))).2.1 | exact (((HA4.out.q _).goes (n := K + 1) (by omega) (by omega))).2.1) _ HO2.out
                    · have hz3 : ¬ (97 : Int) ≤ (c : Int) := by omega
                      go_wp2_with fail
                      go_quiet (fail)
                      go_wp2_with fail
                      go_quiet (fail)
                      go_wp2_with fail
                      go_ret2
                      exact LEsc.no (by first | exact ((((HA4.out.q _).q _).goes (n := K + 1) (by omega) (by omega))).2.1 | exact (((HA4.out.q _).goes (n := K + 1) (by omega) (by omega))).2.1) _ HO2.out
                  · have hz1 : ¬ (48 : Int) ≤ (c : Int) := by omega
                    have hz3 : ¬ (97 : Int) ≤ (c : Int) := by omega
                    go_wp2_with fail
                    go_quiet (fail)
                    go_wp2_with fail
                    go_quiet (fail)
                    go_wp2_with fail
                    go_ret2
                    exact LEsc.no (by first | exact ((((HA4.out.q _).q _).goes (n := K + 1) (by omega) (by omega))).2.1 | exact (((HA4.out.q _).goes (n := K + 1) (by omega) (by omega))).2.1) _ HO2.out
            · have hd2 : digsF 4 0 (P.drop (k + 1)) = none := by
                rw [HD.out, List.drop_of_length_le (show P.length ≤ k + 1 + j by omega)]; rfl
              have ho := HO.out
              rw [hd2] at ho
              dsimp only at ho
              have HO2 := Lib.hid ho
              have hkz : (P.length : Int) ≤ ((k + 1 + j : Nat) : Int) := by omega
              obtain ⟨K, hK⟩ : ∃ K, k + 1 + j = K := ⟨_, rfl⟩
              rw [hK] at c2 hkz
              have HA4 := Lib.hid HA3.out
              clear hd2 ho HD HA3 hv hK hk2
              go_wp2_with fail
              go_quiet (fail)
              go_wp2_with fail
              go_ret2
              exact LEsc.no (by first | exact (HA4.out.q _).2.1 | exact ((HA4.out.q _).q _).2.1) _ HO2.out
      · have ho : O = none := by rw [← hO]; unfold escF; dsimp only; rw [hr, if_neg h1, if_neg h2]
        have HO := Lib.hid ho
        have hn1 : ((r : Int) == 34) = false := beq_eq_false_iff_ne.2 (by omega)
        have hn2 : ((r : Int) == 92) = false := beq_eq_false_iff_ne.2 (by omega)
        have hn3 : ((r : Int) == 117) = false := beq_eq_false_iff_ne.2 (by omega)
        clear hO hx h hr ho h1 h2
        go_enter Tryz.func83, Tryz.ntmps83
        go_wp2_with fail
        go_quiet (fail)
        go_wp2_with fail
        go_quiet (fail)
        go_wp2_with fail
        go_ret2
        exact LEsc.no ((HA.out.q _).goes (n := k + 1) (by omega) (by omega)).2.1 _ HO.out
  · have ho : O = none := by rw [← hO, List.drop_of_length_le (by omega)]; rfl
    have HO := Lib.hid ho
    have hkz : (P.length : Int) ≤ (k : Int) := by omega
    clear hO h ho
    go_enter Tryz.func83, Tryz.ntmps83
    go_wp2_with fail
    go_quiet (fail)
    go_wp2_with fail
    go_ret2
    exact LEsc.no (HA.out.q _).2.1 _ HO.out
end
/- The contract of the document's own name: the name that begins at the next piece. -/
section
open Go.RowKit

theorem still_add {w w' : World} (h : ∃ n, w' = w.drewN n) (q : Nat) : ∃ n, w'.drewN q = w.drewN n := by
  obtain ⟨n, rfl⟩ := h; rw [World.drewN_drewN]; exact ⟨_, rfl⟩
/-- What stays while the name's text is cut out and stored. -/
def NamS (w : World) (g : Nat) (t : ByteArray) (P : List Pc) (ao : Option Addr) (cap k b : Nat) (K here : Int) (w' : World) : Prop := ∃ s1 : Value, LA w w' g t P ao cap k ∧ Two4 w w' b w.heap.size (.int .i64 K) s1 (.int .i64 0) (.int .i64 here)
theorem NamS.q {w w' : World} {g : Nat} {t : ByteArray} {P : List Pc} {ao : Option Addr} {cap k b : Nat} {K here : Int} (h : NamS w g t P ao cap k b K here w') (q : Nat) : NamS w g t P ao cap k b K here (w'.drewN q) := by
  obtain ⟨s1, h1, h2⟩ := h; exact ⟨s1, h1.q q, h2.q q⟩
theorem flat_split (P : List Pc) (k m : Nat) : (flat (P.take (k + m))) = flat (P.take k) ++ flat ((P.drop k).take m) := by
  rw [← flat_append, ← List.take_add]
theorem cut_flat {t : ByteArray} {P : List Pc} (hP : pcs t.data.toList = P) (k m : Nat) :
    (flat (P.take (k + m))).length ≤ t.size ∧ (t.extract (flat (P.take k)).length (flat (P.take (k + m))).length).data.toList = flat ((P.drop k).take m) := by
  have e : t.data.toList = flat (P.take (k + m)) ++ flat (P.drop (k + m)) := by rw [← flat_append, List.take_append_drop, ← hP, flat_pcs]
  have hl := congrArg List.length e
  rw [size_list, List.length_append] at hl
  refine ⟨by omega, ?_⟩
  rw [Lib.extract_data, e, flat_split P k m, List.append_assoc, List.drop_left, List.length_append, Nat.add_sub_cancel_left, List.take_left]

set_option maxHeartbeats 2000000 in
set_option maxRecDepth 100000 in
theorem lname_any (g : Nat) (t : ByteArray) (P : List Pc) (ao : Option Addr) (cap k : Nat) (x : Pc) (R : List Pc) (w : World) (h : LR w g t P ao cap k) (hP : pcs t.data.toList = P) (hl : t.size ≤ 1000) (hd : P.drop k = x :: R) (hx : classZ (x.1 : Int) = 1) :
    Calls Tryz.prog 68 #[.pointer (some ⟨g, 0, none⟩)] w (LTok w g t P ao cap k (nameF x R)) := by
  have hPc : Pcd P := hP ▸ Pcd.of _
  have hs : (flat P).length = t.size := by rw [← hP, flat_pcs, size_list]
  obtain ⟨D, hD⟩ : ∃ D, (P.drop k).takeWhile isWord = D := ⟨_, rfl⟩
  have hD2 : D = x :: R.takeWhile isWord := by rw [← hD, hd, List.takeWhile_cons_of_pos (by simp [isWord, hx])]
  have hDl : D.length = 1 + (R.takeWhile isWord).length := by rw [hD2, List.length_cons]; omega
  have hDt : (P.drop k).take D.length = D := by rw [← hD]; exact take_takeWhile _ _
  have hDP : k + D.length ≤ P.length := by
    have h1 : D.length ≤ (P.drop k).length := by rw [← hD]; exact (List.takeWhile_prefix isWord).length_le
    have h2 := congrArg List.length hd
    rw [List.length_drop] at h1 h2
    rw [List.length_cons] at h2
    omega
  have hPl : P.length ≤ 1000 := by have := flat_len hPc.fit; omega
  have hrun := fun i => run_at hD i
  obtain ⟨hcs, hce⟩ := cut_flat hP k D.length
  rw [hDt] at hce
  have hnam : nameF x R = if (flat D).length ≤ 24 then some ⟨3, flat D, 0, D.length - 1⟩ else none := by
    unfold nameF; rw [← hD2, hDl, Nat.add_sub_cancel_left]
  obtain ⟨O, hO⟩ : ∃ O, nameF x R = O := ⟨_, rfl⟩
  rw [hO] at hnam ⊢
  obtain ⟨here, hh⟩ : ∃ n : Nat, (flat (P.take k)).length = n := ⟨_, rfl⟩
  obtain ⟨fin, hf⟩ : ∃ n : Nat, (flat (P.take (k + D.length))).length = n := ⟨_, rfl⟩
  have hhf : here ≤ fin := by rw [← hh, ← hf, flat_split, List.length_append]; omega
  rw [hh, hf] at hce
  rw [hf] at hcs
  obtain ⟨T, hT⟩ : ∃ T, t.extract here fin = T := ⟨_, rfl⟩
  rw [hT] at hce
  have HH := Lib.hid hh
  have HFI := Lib.hid hf
  have HO := Lib.hid hnam
  have HR := Lib.hid hrun
  have HCE := Lib.hid hce
  have HS := Lib.hid hs
  have hgl := h.lt
  have hA0 := (LA.start h).alloc (.cells #[.int .i64 0, .string ⟨#[]⟩, .int .i64 0, .int .i64 0] 71)
  have hr0 := four_new w (.int .i64 0) (.string ⟨#[]⟩) (.int .i64 0) (.int .i64 0) 71
  have hs0 : w.heap.size < (w.alloc (.cells #[.int .i64 0, .string ⟨#[]⟩, .int .i64 0, .int .i64 0] 71)).heap.size := hr0.lt
  obtain ⟨w0, hw0⟩ : ∃ w0, w.alloc (.cells #[.int .i64 0, .string ⟨#[]⟩, .int .i64 0, .int .i64 0] 71) = w0 := ⟨_, rfl⟩
  rw [hw0] at hA0 hr0 hs0
  have cH := lhere_any g t P ao cap k w0 hA0.1 hs
  rw [hh] at cH
  have HA := Lib.hid hA0
  clear h hd hD hx hO hnam hrun hA0 hs hD2 hh hf hce hDt hP hPc
  go_enter Tryz.func68, Tryz.ntmps68
  go_wp2_with fail
  refine cH.mono ?_
  rintro e w1 ⟨rfl, q, rfl⟩
  clear hw0
  have hA1 := HA.out.later (below_still ⟨q, rfl⟩)
  have hr1 := hr0.later (below_still ⟨q, rfl⟩)
  have hs1 : w.heap.size < (w0.drewN q).heap.size := hr1.lt
  generalize hw1 : w0.drewN q = w1 at *
  clear hw1 hr0 hs0 HA cH
  go_upto_region 2 with fail
  have hb2 := below_alloc w1 (.cells #[.int .i64 3, .string ⟨#[]⟩, .int .i64 0, .int .i64 (here : Int)] 71)
  have hA2 := hA1.later hb2
  have hF2 : Two4 w _ w1.heap.size w.heap.size (.int .i64 3) (.string ⟨#[]⟩) (.int .i64 0) (.int .i64 (here : Int)) := ⟨Nat.le_of_lt hs1, Nat.le_refl _, by omega, four_new w1 (.int .i64 3) (.string ⟨#[]⟩) (.int .i64 0) (.int .i64 (here : Int)) 71, hr1.later hb2⟩
  generalize hw2 : w1.alloc (.cells #[.int .i64 3, .string ⟨#[]⟩, .int .i64 0, .int .i64 (here : Int)] 71) = w2 at *
  generalize hbb : w1.heap.size = b at *
  clear hw2 hb2 hA1 hr1 hs1 hbb
  have HA := Lib.hid hA2
  have HF2 := Lib.hid hF2
  clear hA2 hF2
  go_loopg [] (D.length) (fun n wr => ∃ (i : Nat), i + n = D.length ∧ Hid (LA w wr g t P ao cap (k + i)) ∧ Hid (Two4 w wr b w.heap.size (.int .i64 3) (.string ⟨#[]⟩) (.int .i64 0) (.int .i64 (here : Int))))
  case atStart => exact ⟨0, by omega, HA, HF2⟩
  case round =>
    obtain ⟨i, hin, HA3, HF3⟩ := hrel
    clear HA HF2
    have cC := fun q => lclass_any g t P ao cap (k + i) (wr.drewN q) (HA3.out.q q).1
    have cC0 := lclass_any g t P ao cap (k + i) wr HA3.out.1
    obtain ⟨c0, c1, c2, f2⟩ := HA3.out.1.cells
    obtain ⟨lo, lo2, hne, ⟨tl, t0, t1, t2, t3, tf0, tf1, tf2, tf3⟩, ⟨rl, z0, z1, z2, z3, f0, f1, f2', f3⟩⟩ := HF3.out
    by_cases hi : i < D.length
    · obtain ⟨hdr, hdg⟩ := (HR.out i).1 hi
      have hdc : classZ (D[i].1 : Int) = 1 ∨ classZ (D[i].1 : Int) = 2 := by simpa [isWord] using hdg
      rw [hdr] at cC cC0
      simp only [clsY] at cC cC0
      clear hdr hdg
      rcases hdc with hdc | hdc
      · simp only [hdc] at cC0
        clear hdc cC
        go_wp2_with fail
        refine cC0.mono ?_
        rintro e w4 ⟨rfl, q4, rfl⟩
        clear cC0
        go_wp2_with fail
        go_roundg (gk - 1)
        case measure => omega
        case rel => exact ⟨i + 1, by omega, Lib.hid ((HA3.out.q _).goes (by omega) (by omega)), Lib.hid ((HF3.out.q _).goes hgl _)⟩
      · simp only [hdc] at cC cC0
        clear hdc
        go_wp2_with fail
        refine cC0.mono ?_
        rintro e w4 ⟨rfl, q4, rfl⟩
        clear cC0
        go_wp2_with fail
        refine (cC _).mono ?_
        rintro e w4 ⟨rfl, q5, rfl⟩
        clear cC
        go_wp2_with fail
        go_roundg (gk - 1)
        case measure => omega
        case rel =>
          refine ⟨i + 1, by omega, Lib.hid ?_, Lib.hid ?_⟩
          · first
            | exact (HA3.out.q _).goes (by omega) (by omega)
            | exact ((HA3.out.q _).q _).goes (by omega) (by omega)
          · first
            | exact (HF3.out.q _).goes hgl _
            | exact ((HF3.out.q _).q _).goes hgl _
    · obtain rfl : i = D.length := by omega
      have hno : clsY (P.drop (k + D.length)) ≠ 1 ∧ clsY (P.drop (k + D.length)) ≠ 2 := by
        have h2 := (HR.out D.length).2 rfl
        cases hY : P.drop (k + D.length) with
        | nil => decide
        | cons y Y =>
          have := h2 y (by rw [hY]; rfl)
          unfold isWord at this
          have h3 := of_decide_eq_false this
          exact ⟨fun e => h3 (.inl e), fun e => h3 (.inr e)⟩
      obtain ⟨c, hc⟩ : ∃ c, clsY (P.drop (k + D.length)) = c := ⟨_, rfl⟩
      simp only [hc] at cC cC0 hno
      have hn1 : (c == 1) = false := beq_eq_false_iff_ne.2 hno.1
      have hn2 : (c == 2) = false := beq_eq_false_iff_ne.2 hno.2
      clear hc hno
      go_wp2_with fail
      refine cC0.mono ?_
      rintro e w4 ⟨rfl, q4, rfl⟩
      clear cC0
      go_wp2_with fail
      refine (cC _).mono ?_
      rintro e w4 ⟨rfl, q5, rfl⟩
      clear cC
      have hA5 := (HA3.out.q q4).q q5
      have hF5 := (HF3.out.q q4).q q5
      clear c0 c1 c2 f2 tl t0 t1 t2 t3 tf0 tf1 tf2 tf3 rl z0 z1 z2 z3 f0 f1 f2' f3 HA3 HF3
      generalize hw5 : (wr.drewN q4).drewN q5 = w5 at *
      clear hw5
      obtain ⟨c0, c1, c2, -⟩ := hA5.1.cells
      have hF5b := hF5
      obtain ⟨-, -, -, ⟨tl, t0, t1, t2, t3, tf0, tf1, tf2, tf3⟩, -⟩ := hF5b
      have cH2 := fun q => lhere_any g t P ao cap (k + D.length) (w5.drewN q) (hA5.q q).1 HS.out
      simp only [HFI.out] at cH2
      have hz1 : (here : Int) ≤ (fin : Int) := by omega
      have hz2 : (fin : Int) ≤ (t.size : Int) := by omega
      have HA5 := Lib.hid hA5
      have HF5 := Lib.hid hF5
      have hS0 : NamS w g t P ao cap (k + D.length) b 3 here w5.drew := ⟨_, hA5.q 1, hF5.q 1⟩
      clear hA5 hF5
      go_upto_region 4 with fail
      refine wp_region_held_drew (S := NamS w g t P ao cap (k + D.length) b 3 here) (by kernel_rfl) (hS0) (fun hHeld => ?_)
      refine held_take (i := 0) (v := ?_) rfl (by kernel_rfl) (by kernel_rfl) (by kernel_rfl) (fun _ _ _ h => h) (by rfl) hHeld ?_ ?_
      rotate_left
      · intro wz hSz; go_simp; try with_reducible rfl
      simp only [Act.put, List.setIfInBounds_toArray, List.set_cons_zero, List.set_cons_succ]
      refine held_take (i := 1) (v := ?_) rfl (by kernel_rfl) (by kernel_rfl) (by kernel_rfl) (fun _ _ _ h => h) (by rfl) hHeld ?_ ?_
      rotate_left
      · intro wz hSz; go_simp; try with_reducible rfl
      simp only [Act.put, List.setIfInBounds_toArray, List.set_cons_zero, List.set_cons_succ]
      refine held_take (i := 2) (v := ?_) rfl (by kernel_rfl) (by kernel_rfl) (by kernel_rfl) (fun _ _ _ h => h) (by rfl) hHeld ?_ ?_
      rotate_left
      · intro wz hSz; go_simp; try with_reducible rfl
      simp only [Act.put, List.setIfInBounds_toArray, List.set_cons_zero, List.set_cons_succ]
      refine held_take (i := 3) (v := ?_) rfl (by kernel_rfl) (by kernel_rfl) (by kernel_rfl) (fun _ _ _ h => h) (by rfl) hHeld ?_ ?_
      rotate_left
      · intro wz hSz; obtain ⟨s1, hl1, hf1⟩ := hSz; obtain ⟨d0, -, -, -⟩ := hl1.1.cells; go_simp; try with_reducible rfl
      simp only [Act.put, List.setIfInBounds_toArray, List.set_cons_zero, List.set_cons_succ]
      refine held_take (i := 4) (v := ?_) rfl (by kernel_rfl) (by kernel_rfl) (by kernel_rfl) (fun _ _ _ h => h) (by rfl) hHeld ?_ ?_
      rotate_left
      · intro wz hSz; go_simp; try with_reducible rfl
      simp only [Act.put, List.setIfInBounds_toArray, List.set_cons_zero, List.set_cons_succ]
      refine held_take (i := 5) (v := ?_) rfl (by kernel_rfl) (by kernel_rfl) (by kernel_rfl) (fun _ _ _ h => h) (by rfl) hHeld ?_ ?_
      rotate_left
      · intro wz hSz; obtain ⟨s1, hl1, hf1⟩ := hSz; have d3 := hf1.t.c3; go_simp; try with_reducible rfl
      simp only [Act.put, List.setIfInBounds_toArray, List.set_cons_zero, List.set_cons_succ]
      refine held_take (i := 6) (v := ?_) rfl (by kernel_rfl) (by kernel_rfl) (by kernel_rfl) (fun _ _ _ h => h) (by rfl) hHeld ?_ ?_
      rotate_left
      · intro wz hSz; go_simp; try with_reducible rfl
      simp only [Act.put, List.setIfInBounds_toArray, List.set_cons_zero, List.set_cons_succ]
      refine held_call (i := 7) (by kernel_rfl) rfl (by rfl) (by go_simp; try with_reducible rfl) (cH2 1) ?_
      rintro e wy ⟨rfl, q6, rfl⟩
      refine ⟨_, rfl, hHeld.q q6, ?_⟩
      replace hHeld := hHeld.q q6
      simp only [Act.put, List.setIfInBounds_toArray, List.set_cons_zero, List.set_cons_succ]
      refine held_take (i := 8) (v := ?_) rfl (by kernel_rfl) (by kernel_rfl) (by kernel_rfl) (fun _ _ _ h => h) (by rfl) hHeld ?_ ?_
      rotate_left
      · intro wz hSz; go_simp; try with_reducible rfl
      simp only [Act.put, List.setIfInBounds_toArray, List.set_cons_zero, List.set_cons_succ]
      refine held_take (i := 9) (v := ?_) rfl (by kernel_rfl) (by kernel_rfl) (by kernel_rfl) (fun _ _ _ h => h) (by rfl) hHeld ?_ ?_
      rotate_left
      · intro wz hSz; go_simp; try with_reducible rfl
      simp only [Act.put, List.setIfInBounds_toArray, List.set_cons_zero, List.set_cons_succ]
      refine held_one (i := 10) (by kernel_rfl) rfl (by rfl) (fun K hK => ?_)
      go_simp
      refine hK _ _ ⟨_, (HA5.out.q _).put lo 1 _, (HF5.out.q _).str _⟩ ?_
      refine wpAnyH_done (by kernel_rfl) ?_ _
      clear hHeld hK hS0
      have hA6 := ((HA5.out.q (1 + q6)).put lo 1 (.string T))
      have hF6 := ((HF5.out.q (1 + q6)).str (.string T))
      generalize hw6 : (w5.drewN (1 + q6)).setCell ⟨b, 1, none⟩ (.string T) = w6 at *
      clear hw6 HA5 HF5 tl t0 t1 t2 t3 tf0 tf1 tf2 tf3 c0 c1 c2 cH2
      obtain ⟨-, -, -, ⟨tl, t0, t1, t2, t3, tf0, tf1, tf2, tf3⟩, ⟨rl, z0, z1, z2, z3, f0, f1, f2, f3⟩⟩ := hF6
      have hTs : T.size = (flat D).length := by rw [← size_list, HCE.out]
      have hTe : T = ⟨(flat D).toArray⟩ := by
        apply ByteArray.ext; apply Array.toList_inj.1; exact HCE.out
      have HTE := Lib.hid hTe
      have HTS := Lib.hid hTs
      have HA6 := Lib.hid hA6
      clear hTe hTs hA6
      go_wp2_with fail
      go_region
      go_wp2_with fail
      have hAE := (((((HA6.out).put lo2 0 (.int .i64 3)).put lo2 1 (.string T)).put lo2 2 (.int .i64 0)).put lo2 3 (.int .i64 (here : Int))).q 1
      refine bodyPost_ret (v := .tuple #[T4 3 T 0 here, .bool (decide ((T.size : Int) ≤ 24))]) (by simp [results, Tryz.results68, go_sem, z0, z1, z2, z3]) rfl ⟨hAE.2.1, ?_⟩
      rw [HO.out, ← HTS.out]
      by_cases h24 : T.size ≤ 24
      · rw [if_pos h24, HH.out, decide_eq_true (by omega)]
        refine ⟨?_, ?_⟩
        · show Ending.returned (.tuple #[T4 3 T 0 here, .bool true]) = Ending.returned (.tuple #[T4 3 ⟨(flat D).toArray⟩ 0 here, .bool true])
          rw [← HTE.out]
        · show LR _ g t P ao cap (k + 1 + (D.length - 1))
          rw [show k + 1 + (D.length - 1) = k + D.length by omega]
          exact hAE.1
      · rw [if_neg h24, HH.out, decide_eq_false (by omega)]
        exact ⟨_, _, _, rfl⟩
end
end Go.Proofs.YtkbeemkmcnfiiaaGreatDoor
