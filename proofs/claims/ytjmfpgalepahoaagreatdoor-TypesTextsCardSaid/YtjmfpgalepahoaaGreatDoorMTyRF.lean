/- palaverref08: find, all, of, typ, Of: the document's own types. -/
import Derived.Test.YtjmfpgalepahoaaGreatDoorGT
import Derived.Test.YtjmfpgalepahoaaGreatDoorGG
import Derived.BigQuiet
namespace Go.Proofs.YtjmfpgalepahoaaGreatDoor
open Go.RowKit

set_option maxHeartbeats 2000000 in
set_option maxRecDepth 100000 in
theorem rfind_any (S : List ByteArray) (Z : List Int) (A B : Option Addr) (cA cB : Nat) (s : ByteArray) (w : World) (hS : Ts w A S) (hZ : Is w B Z) (lS : S.length ≤ 4611686018427387904) (lZ : Z.length ≤ 4611686018427387904) :
    Calls Tryz.prog 86 #[.string s, .slice A S.length cA, .slice B Z.length cB] w fun e w' => e = .returned (.int .i64 (findT S Z s)) ∧ w = w' := by
  generalize hF : findT S Z s = F
  have HR : Hid (F = findT (S.drop 0) (Z.drop 0) s) := Lib.hid (by rw [← hF]; simp)
  have HS := Lib.hid hS
  have HZ := Lib.hid hZ
  clear hS hZ hF
  go_enter Tryz.func86, Tryz.ntmps86
  go_wp2_with fail
  go_loopg [7] (S.length) (fun n si wr => ∃ k : Nat, k + n = S.length ∧ si = .int .i64 (k : Int) ∧ wr = w ∧ Hid (F = findT (S.drop k) (Z.drop k) s))
  case atStart => exact ⟨0, by omega, rfl, rfl, HR⟩
  case round =>
    obtain ⟨k, hkn, rfl, rfl, HW⟩ := hrel
    clear HR
    have HKN := Lib.hid hkn
    by_cases hk : k < S.length
    · have hkz : (k : Int) < (S.length : Int) := by omega
      have hleft := HW.out
      obtain ⟨ba, oa, rfl, hca⟩ := HS.out (by omega)
      have hcell := hca k hk
      obtain ⟨nm, hnm⟩ : ∃ nm, S[k]? = some nm := ⟨_, List.getElem?_eq_getElem hk⟩
      rw [List.getD_eq_getElem?_getD, hnm] at hcell
      have hcell2 : wr.cell? ⟨ba, oa + k, none⟩ = some (.string nm) := hcell
      clear hca hcell hkn HW
      by_cases hn : nm = s
      · subst hn
        have hnn : (nm.toList == nm.toList) = true := by simp
        by_cases hz : k < Z.length
        · have hzz : ¬ (Z.length : Int) ≤ (k : Int) := by omega
          have hzz2 : (k : Int) < (Z.length : Int) := by omega
          obtain ⟨z, hz1⟩ : ∃ z, Z[k]? = some z := ⟨_, List.getElem?_eq_getElem hz⟩
          have hst := findT_at (s := nm) hnm hz1
          rw [← hleft, if_pos rfl] at hst
          obtain ⟨bb, ob, rfl, hcb⟩ := HZ.out (by omega)
          have hcz := hcb k hz
          rw [List.getD_eq_getElem?_getD, hz1] at hcz
          have hcz2 : wr.cell? ⟨bb, ob + k, none⟩ = some (.int .i64 z) := hcz
          have HT := Lib.hid hst
          clear hcb hcz hst hleft
          by_cases h1 : z < 1
          · go_wp2_with fail
            exact bodyPost_ret (v := .int .i64 0) (by simp [results, Tryz.results86, go_sem]) rfl ⟨by rw [HT.out, if_neg (by omega)], rfl⟩
          by_cases h2 : 3 < z
          · go_wp2_with fail
            exact bodyPost_ret (v := .int .i64 0) (by simp [results, Tryz.results86, go_sem]) rfl ⟨by rw [HT.out, if_neg (by omega)], rfl⟩
          go_wp2_with fail
          exact bodyPost_ret (v := .int .i64 z) (by simp [results, Tryz.results86, go_sem]) rfl ⟨by rw [HT.out, if_pos (by omega)], rfl⟩
        · have hzz : (Z.length : Int) ≤ (k : Int) := by omega
          have H0 : Hid (F = 0) := Lib.hid (by rw [hleft]; exact findT_end (.inr (by omega)))
          clear hleft
          go_wp2_with fail
          exact bodyPost_ret (v := .int .i64 0) (by simp [results, Tryz.results86, go_sem]) rfl ⟨by rw [H0.out], rfl⟩
      · have hnn : (nm.toList == s.toList) = false := txt_ne hn
        have HN : Hid (F = findT (S.drop (k + 1)) (Z.drop (k + 1)) s) := Lib.hid (by
          by_cases hz : k < Z.length
          · obtain ⟨z, hz1⟩ : ∃ z, Z[k]? = some z := ⟨_, List.getElem?_eq_getElem hz⟩
            rw [hleft, findT_at hnm hz1, if_neg hn]
          · rw [hleft, findT_end (.inr (by omega)), findT_end (.inr (by omega))])
        clear hleft hn
        go_wp2_with fail
        go_roundg (S.length - (k + 1))
        case measure => have := HKN.out; omega
        case rel => exact ⟨k + 1, by have := HKN.out; omega, by go_num, rfl, HN⟩
    · have hkz : ¬ (k : Int) < (S.length : Int) := by omega
      have H0 : Hid (F = 0) := Lib.hid (by rw [HW.out]; exact findT_end (.inl (by omega)))
      clear HW hkn
      go_wp2_with fail
      exact bodyPost_ret (v := .int .i64 0) (by simp [results, Tryz.results86, go_sem]) rfl ⟨by rw [H0.out], rfl⟩
set_option maxHeartbeats 1000000 in
set_option maxRecDepth 100000 in
theorem rall_any (ts : List Int) (ao : Option Addr) (cap : Nat) (typ : Int) (w : World) (hr : 0 < ts.length → ∃ g, ao = some ⟨g, 0, none⟩ ∧ ∀ j t, ts[j]? = some t → w.cell? ⟨g, j, none⟩ = some (.int .i64 t)) (hl : ts.length ≤ 4611686018427387904) :
    Calls Tryz.prog 160 #[.slice ao ts.length cap, .int .i64 typ] w fun e w' => e = .returned (.bool (ts.all fun t => t == typ)) ∧ w = w' := by
  obtain ⟨R, hR⟩ : ∃ R, (ts.all fun t => t == typ) = R := ⟨_, rfl⟩
  rw [hR]
  have HR : Hid (((ts.drop 0).all fun t => t == typ) = R) := Lib.hid (by rw [List.drop_zero]; exact hR)
  have HC := Lib.hid hr
  clear hr hR
  go_enter Tryz.func160, Tryz.ntmps160
  go_wp2_with fail
  go_loopg [5] (ts.length) (fun n si wr => ∃ k : Nat, k + n = ts.length ∧ si = .int .i64 (k : Int) ∧ wr = w ∧ Hid (((ts.drop k).all fun t => t == typ) = R))
  case atStart => exact ⟨0, by omega, rfl, rfl, HR⟩
  case round =>
    obtain ⟨k, hkn, rfl, rfl, HW⟩ := hrel
    clear HR
    have HKN := Lib.hid hkn
    by_cases hk : k < ts.length
    · have hkz : (k : Int) < (ts.length : Int) := by omega
      obtain ⟨g, rfl, hc⟩ := HC.out (by omega)
      have hx : ts[k]? = some ts[k] := List.getElem?_eq_getElem hk
      have hcell := hc k _ hx
      have hd := HW.out
      rw [List.drop_eq_getElem_cons hk, List.all_cons] at hd
      generalize ts[k] = t at *
      have HD := Lib.hid hd
      clear hc hd hx HW hkn
      by_cases ht : t = typ
      · subst ht
        go_wp2_with fail
        go_roundg (ts.length - (k + 1))
        case measure => have := HKN.out; omega
        case rel => exact ⟨k + 1, by have := HKN.out; omega, by go_num, rfl, Lib.hid (by have := HD.out; simpa using this)⟩
      · have htz : (t == typ) = false := beq_eq_false_iff_ne.2 ht
        have HF : Hid (R = false) := Lib.hid (by rw [← HD.out, htz]; rfl)
        clear HD ht
        go_wp2_with fail
        exact bodyPost_ret (v := .bool false) (by simp [results, Tryz.results160, go_sem]) rfl ⟨by rw [HF.out], rfl⟩
    · have hkz : ¬ (k : Int) < (ts.length : Int) := by omega
      have HF : Hid (R = true) := Lib.hid (by rw [← HW.out, List.drop_of_length_le (by omega)]; rfl)
      clear HW hkn
      go_wp2_with fail
      exact bodyPost_ret (v := .bool true) (by simp [results, Tryz.results160, go_sem]) rfl ⟨by rw [HF.out], rfl⟩
theorem part_all1 {op : Int} {ts : List Int} (h : op = 5 ∨ (7 ≤ op ∧ op ≤ 11)) (ha : arity op = some ts.length) : partT op ts = if (ts.all fun t => t == 1) then 1 else 0 := by
  rcases h with rfl | h
  · obtain ⟨a, rfl⟩ := List.length_eq_one_iff.1 (show ts.length = 1 by simpa [arity, eq_comm] using ha)
    simp [partT]
  · obtain ⟨a, b, rfl⟩ := len_two (show ts.length = 2 by
      have e : arity op = some 2 := by unfold arity; rw [if_neg (by omega), if_neg (by omega), if_pos (by omega)]
      rw [e] at ha; simpa [eq_comm] using ha)
    unfold partT
    simp only [List.getD_cons_zero, List.getD_cons_succ]
    rw [if_neg (by omega), if_neg (by omega), if_neg (by omega), if_neg (by omega), if_neg (by omega), if_pos h]
    by_cases h1 : a = 1 <;> by_cases h2 : b = 1 <;> simp [h1, h2]
theorem part_all2 {op : Int} {ts : List Int} (h : op = 6 ∨ op = 16 ∨ op = 17) (ha : arity op = some ts.length) : partT op ts = if (ts.all fun t => t == 2) then 2 else 0 := by
  rcases h with rfl | rfl | rfl
  · obtain ⟨a, rfl⟩ := List.length_eq_one_iff.1 (show ts.length = 1 by simpa [arity, eq_comm] using ha)
    simp [partT]
  · obtain ⟨a, b, rfl⟩ := len_two (show ts.length = 2 by simpa [arity, eq_comm] using ha)
    by_cases h1 : a = 2 <;> by_cases h2 : b = 2 <;> simp [partT, h1, h2]
  · obtain ⟨a, b, rfl⟩ := len_two (show ts.length = 2 by simpa [arity, eq_comm] using ha)
    by_cases h1 : a = 2 <;> by_cases h2 : b = 2 <;> simp [partT, h1, h2]
theorem part_all3 {op : Int} {ts : List Int} (h : op = 20 ∨ op = 23) (ha : arity op = some ts.length) : partT op ts = if (ts.all fun t => t == 3) then 3 else 0 := by
  rcases h with rfl | rfl
  · obtain ⟨a, b, rfl⟩ := len_two (show ts.length = 2 by simpa [arity, eq_comm] using ha)
    by_cases h1 : a = 3 <;> by_cases h2 : b = 3 <;> simp [partT, h1, h2]
  · obtain ⟨a, rfl⟩ := List.length_eq_one_iff.1 (show ts.length = 1 by simpa [arity, eq_comm] using ha)
    simp [partT]
theorem part_less {op : Int} {ts : List Int} (h : op = 14 ∨ op = 15) (ha : arity op = some ts.length) (ht : ∀ t ∈ ts, 1 ≤ t ∧ t ≤ 3) : partT op ts = if (ts.all fun t => t == 1) || (ts.all fun t => t == 3) then 2 else 0 := by
  obtain ⟨a, b, rfl⟩ := len_two (show ts.length = 2 by rcases h with rfl | rfl <;> simpa [arity, eq_comm] using ha)
  have h1 := ht a (by simp)
  have h2 := ht b (by simp)
  have : a = 1 ∨ a = 2 ∨ a = 3 := by omega
  have : b = 1 ∨ b = 2 ∨ b = 3 := by omega
  rcases h with rfl | rfl <;> rcases ‹a = 1 ∨ a = 2 ∨ a = 3› with rfl | rfl | rfl <;> rcases ‹b = 1 ∨ b = 2 ∨ b = 3› with rfl | rfl | rfl <;> decide
set_option maxHeartbeats 8000000 in
set_option maxRecDepth 100000 in
/-- An operation of such kids, by the document. -/
theorem rof_any (op : Int) (ts : List Int) (v : Value) (w : World) (C : Nat) (ho : w.ownsRow C 3 1 v ts.length (ts.map fun t => Value.int .i64 t)) (ha : arity op = some ts.length) (h5 : 5 ≤ op) (ht : ∀ t ∈ ts, 1 ≤ t ∧ t ≤ 3) :
    Calls Tryz.prog 87 #[.int .i64 op, v] w fun e w' => e = .returned (.int .i64 (partT op ts)) ∧ Below w.heap.size w w' := by
  obtain ⟨ao, cap, rfl, hc, -, hr⟩ := own_slice ho
  have hop : 1 ≤ op ∧ op ≤ 23 := by
    unfold arity at ha
    repeat' split at ha
    all_goals first | omega | cases ha
  have hl3 : ts.length ≤ 3 := by
    unfold arity at ha
    repeat' split at ha
    all_goals first | (injection ha with ha; omega) | cases ha
  have hat : 0 < ts.length → ∃ g, ao = some ⟨g, 0, none⟩ ∧ ∀ j t, ts[j]? = some t → w.cell? ⟨g, j, none⟩ = some (.int .i64 t) := fun h0 => by
    obtain ⟨g, e, -, hcell⟩ := hr h0
    exact ⟨g, e, fun j t hj => hcell j _ (by rw [List.getElem?_map, hj]; rfl)⟩
  have cA := fun typ w' (hw : w' = w) => rall_any ts ao cap typ w' (by rw [hw]; exact hat) (by omega)
  have two : ∀ a b, ts = [a, b] → ∃ g, ao = some ⟨g, 0, none⟩ ∧ w.cell? ⟨g, 0, none⟩ = some (.int .i64 a) ∧ w.cell? ⟨g, 1, none⟩ = some (.int .i64 b) := fun a b e => by
    obtain ⟨g, h1, h2⟩ := hat (by rw [e]; simp)
    exact ⟨g, h1, h2 0 a (by rw [e]; rfl), h2 1 b (by rw [e]; rfl)⟩
  clear hr ho
  have h5' : op = 5 ∨ op = 6 ∨ op = 7 ∨ op = 8 ∨ op = 9 ∨ op = 10 ∨ op = 11 ∨ op = 12 ∨ op = 13 ∨ op = 14 ∨ op = 15 ∨ op = 16 ∨ op = 17 ∨ op = 18 ∨ op = 19 ∨ op = 20 ∨ op = 21 ∨ op = 22 ∨ op = 23 := by omega
  rcases h5' with rfl | rfl | rfl | rfl | rfl | rfl | rfl | rfl | rfl | rfl | rfl | rfl | rfl | rfl | rfl | rfl | rfl | rfl | rfl
  · rw [part_all1 (by decide) ha]
    have c := cA 1 w rfl
    generalize (ts.all fun t => t == 1) = R at *
    clear cA hat two ht ha
    cases R
    · go_enter Tryz.func87, Tryz.ntmps87
      go_wp2_with fail
      refine c.mono ?_
      rintro e w1 ⟨rfl, rfl⟩
      go_wp2_with fail
      exact bodyPost_ret (v := .int .i64 0) (by simp [results, Tryz.results87, go_sem]) rfl ⟨rfl, by first | exact Below.refl _ _ | exact below_drewN (Below.refl _ _) _⟩
    · go_enter Tryz.func87, Tryz.ntmps87
      go_wp2_with fail
      refine c.mono ?_
      rintro e w1 ⟨rfl, rfl⟩
      go_wp2_with fail
      exact bodyPost_ret (v := .int .i64 1) (by simp [results, Tryz.results87, go_sem]) rfl ⟨rfl, by first | exact Below.refl _ _ | exact below_drewN (Below.refl _ _) _⟩
  · rw [part_all2 (by decide) ha]
    have c := cA 2 w rfl
    generalize (ts.all fun t => t == 2) = R at *
    clear cA hat two ht ha
    cases R
    · go_enter Tryz.func87, Tryz.ntmps87
      go_wp2_with fail
      refine c.mono ?_
      rintro e w1 ⟨rfl, rfl⟩
      go_wp2_with fail
      exact bodyPost_ret (v := .int .i64 0) (by simp [results, Tryz.results87, go_sem]) rfl ⟨rfl, by first | exact Below.refl _ _ | exact below_drewN (Below.refl _ _) _⟩
    · go_enter Tryz.func87, Tryz.ntmps87
      go_wp2_with fail
      refine c.mono ?_
      rintro e w1 ⟨rfl, rfl⟩
      go_wp2_with fail
      exact bodyPost_ret (v := .int .i64 2) (by simp [results, Tryz.results87, go_sem]) rfl ⟨rfl, by first | exact Below.refl _ _ | exact below_drewN (Below.refl _ _) _⟩
  · rw [part_all1 (by decide) ha]
    have c := cA 1 w rfl
    generalize (ts.all fun t => t == 1) = R at *
    clear cA hat two ht ha
    cases R
    · go_enter Tryz.func87, Tryz.ntmps87
      go_wp2_with fail
      refine c.mono ?_
      rintro e w1 ⟨rfl, rfl⟩
      go_wp2_with fail
      exact bodyPost_ret (v := .int .i64 0) (by simp [results, Tryz.results87, go_sem]) rfl ⟨rfl, by first | exact Below.refl _ _ | exact below_drewN (Below.refl _ _) _⟩
    · go_enter Tryz.func87, Tryz.ntmps87
      go_wp2_with fail
      refine c.mono ?_
      rintro e w1 ⟨rfl, rfl⟩
      go_wp2_with fail
      exact bodyPost_ret (v := .int .i64 1) (by simp [results, Tryz.results87, go_sem]) rfl ⟨rfl, by first | exact Below.refl _ _ | exact below_drewN (Below.refl _ _) _⟩
  · rw [part_all1 (by decide) ha]
    have c := cA 1 w rfl
    generalize (ts.all fun t => t == 1) = R at *
    clear cA hat two ht ha
    cases R
    · go_enter Tryz.func87, Tryz.ntmps87
      go_wp2_with fail
      refine c.mono ?_
      rintro e w1 ⟨rfl, rfl⟩
      go_wp2_with fail
      exact bodyPost_ret (v := .int .i64 0) (by simp [results, Tryz.results87, go_sem]) rfl ⟨rfl, by first | exact Below.refl _ _ | exact below_drewN (Below.refl _ _) _⟩
    · go_enter Tryz.func87, Tryz.ntmps87
      go_wp2_with fail
      refine c.mono ?_
      rintro e w1 ⟨rfl, rfl⟩
      go_wp2_with fail
      exact bodyPost_ret (v := .int .i64 1) (by simp [results, Tryz.results87, go_sem]) rfl ⟨rfl, by first | exact Below.refl _ _ | exact below_drewN (Below.refl _ _) _⟩
  · rw [part_all1 (by decide) ha]
    have c := cA 1 w rfl
    generalize (ts.all fun t => t == 1) = R at *
    clear cA hat two ht ha
    cases R
    · go_enter Tryz.func87, Tryz.ntmps87
      go_wp2_with fail
      refine c.mono ?_
      rintro e w1 ⟨rfl, rfl⟩
      go_wp2_with fail
      exact bodyPost_ret (v := .int .i64 0) (by simp [results, Tryz.results87, go_sem]) rfl ⟨rfl, by first | exact Below.refl _ _ | exact below_drewN (Below.refl _ _) _⟩
    · go_enter Tryz.func87, Tryz.ntmps87
      go_wp2_with fail
      refine c.mono ?_
      rintro e w1 ⟨rfl, rfl⟩
      go_wp2_with fail
      exact bodyPost_ret (v := .int .i64 1) (by simp [results, Tryz.results87, go_sem]) rfl ⟨rfl, by first | exact Below.refl _ _ | exact below_drewN (Below.refl _ _) _⟩
  · rw [part_all1 (by decide) ha]
    have c := cA 1 w rfl
    generalize (ts.all fun t => t == 1) = R at *
    clear cA hat two ht ha
    cases R
    · go_enter Tryz.func87, Tryz.ntmps87
      go_wp2_with fail
      refine c.mono ?_
      rintro e w1 ⟨rfl, rfl⟩
      go_wp2_with fail
      exact bodyPost_ret (v := .int .i64 0) (by simp [results, Tryz.results87, go_sem]) rfl ⟨rfl, by first | exact Below.refl _ _ | exact below_drewN (Below.refl _ _) _⟩
    · go_enter Tryz.func87, Tryz.ntmps87
      go_wp2_with fail
      refine c.mono ?_
      rintro e w1 ⟨rfl, rfl⟩
      go_wp2_with fail
      exact bodyPost_ret (v := .int .i64 1) (by simp [results, Tryz.results87, go_sem]) rfl ⟨rfl, by first | exact Below.refl _ _ | exact below_drewN (Below.refl _ _) _⟩
  · rw [part_all1 (by decide) ha]
    have c := cA 1 w rfl
    generalize (ts.all fun t => t == 1) = R at *
    clear cA hat two ht ha
    cases R
    · go_enter Tryz.func87, Tryz.ntmps87
      go_wp2_with fail
      refine c.mono ?_
      rintro e w1 ⟨rfl, rfl⟩
      go_wp2_with fail
      exact bodyPost_ret (v := .int .i64 0) (by simp [results, Tryz.results87, go_sem]) rfl ⟨rfl, by first | exact Below.refl _ _ | exact below_drewN (Below.refl _ _) _⟩
    · go_enter Tryz.func87, Tryz.ntmps87
      go_wp2_with fail
      refine c.mono ?_
      rintro e w1 ⟨rfl, rfl⟩
      go_wp2_with fail
      exact bodyPost_ret (v := .int .i64 1) (by simp [results, Tryz.results87, go_sem]) rfl ⟨rfl, by first | exact Below.refl _ _ | exact below_drewN (Below.refl _ _) _⟩
  · obtain ⟨a, b, rfl⟩ := len_two (show ts.length = 2 by simpa [arity, eq_comm] using ha)
    obtain ⟨g, rfl, c0, c1⟩ := two a b rfl
    have hp : Hid (partT 12 [a, b] = if a = b then 2 else 0) := Lib.hid (by simp [partT])
    clear cA hat two ht ha
    show Calls _ _ #[.int .i64 12, .slice (some ⟨g, 0, none⟩) 2 cap] w _
    generalize partT 12 [a, b] = R at *
    by_cases h : a = b
    · subst h
      go_enter Tryz.func87, Tryz.ntmps87
      go_wp2_with fail
      go_quiet (fail)
      go_wp2_with fail
      exact bodyPost_ret (v := .int .i64 2) (by simp [results, Tryz.results87, go_sem]) rfl ⟨by rw [hp.out]; simp [*], by first | exact Below.refl _ _ | exact below_drewN (Below.refl _ _) _⟩
    · have hz : (a == b) = false := beq_eq_false_iff_ne.2 h
      go_enter Tryz.func87, Tryz.ntmps87
      go_wp2_with fail
      go_quiet (fail)
      go_wp2_with fail
      exact bodyPost_ret (v := .int .i64 0) (by simp [results, Tryz.results87, go_sem]) rfl ⟨by rw [hp.out]; simp [*], by first | exact Below.refl _ _ | exact below_drewN (Below.refl _ _) _⟩
  · obtain ⟨a, b, rfl⟩ := len_two (show ts.length = 2 by simpa [arity, eq_comm] using ha)
    obtain ⟨g, rfl, c0, c1⟩ := two a b rfl
    have hp : Hid (partT 13 [a, b] = if a = b then 2 else 0) := Lib.hid (by simp [partT])
    clear cA hat two ht ha
    show Calls _ _ #[.int .i64 13, .slice (some ⟨g, 0, none⟩) 2 cap] w _
    generalize partT 13 [a, b] = R at *
    by_cases h : a = b
    · subst h
      go_enter Tryz.func87, Tryz.ntmps87
      go_wp2_with fail
      go_quiet (fail)
      go_wp2_with fail
      exact bodyPost_ret (v := .int .i64 2) (by simp [results, Tryz.results87, go_sem]) rfl ⟨by rw [hp.out]; simp [*], by first | exact Below.refl _ _ | exact below_drewN (Below.refl _ _) _⟩
    · have hz : (a == b) = false := beq_eq_false_iff_ne.2 h
      go_enter Tryz.func87, Tryz.ntmps87
      go_wp2_with fail
      go_quiet (fail)
      go_wp2_with fail
      exact bodyPost_ret (v := .int .i64 0) (by simp [results, Tryz.results87, go_sem]) rfl ⟨by rw [hp.out]; simp [*], by first | exact Below.refl _ _ | exact below_drewN (Below.refl _ _) _⟩
  · rw [part_less (by decide) ha ht]
    have c := cA 1 w rfl
    have c2 := cA 3 w rfl
    generalize (ts.all fun t => t == 1) = R1 at *
    generalize (ts.all fun t => t == 3) = R2 at *
    clear cA hat two ht ha
    cases R1
    · cases R2
      · go_enter Tryz.func87, Tryz.ntmps87
        go_wp2_with fail
        refine c.mono ?_
        rintro e w1 ⟨rfl, rfl⟩
        go_wp2_with fail
        refine c2.mono ?_
        rintro e w1 ⟨rfl, rfl⟩
        go_wp2_with fail
        exact bodyPost_ret (v := .int .i64 0) (by simp [results, Tryz.results87, go_sem]) rfl ⟨rfl, by first | exact Below.refl _ _ | exact below_drewN (Below.refl _ _) _⟩
      · go_enter Tryz.func87, Tryz.ntmps87
        go_wp2_with fail
        refine c.mono ?_
        rintro e w1 ⟨rfl, rfl⟩
        go_wp2_with fail
        refine c2.mono ?_
        rintro e w1 ⟨rfl, rfl⟩
        go_wp2_with fail
        exact bodyPost_ret (v := .int .i64 2) (by simp [results, Tryz.results87, go_sem]) rfl ⟨rfl, by first | exact Below.refl _ _ | exact below_drewN (Below.refl _ _) _⟩
    · go_enter Tryz.func87, Tryz.ntmps87
      go_wp2_with fail
      refine c.mono ?_
      rintro e w1 ⟨rfl, rfl⟩
      go_wp2_with fail
      exact bodyPost_ret (v := .int .i64 2) (by simp [results, Tryz.results87, go_sem]) rfl ⟨rfl, by first | exact Below.refl _ _ | exact below_drewN (Below.refl _ _) _⟩
  · rw [part_less (by decide) ha ht]
    have c := cA 1 w rfl
    have c2 := cA 3 w rfl
    generalize (ts.all fun t => t == 1) = R1 at *
    generalize (ts.all fun t => t == 3) = R2 at *
    clear cA hat two ht ha
    cases R1
    · cases R2
      · go_enter Tryz.func87, Tryz.ntmps87
        go_wp2_with fail
        refine c.mono ?_
        rintro e w1 ⟨rfl, rfl⟩
        go_wp2_with fail
        refine c2.mono ?_
        rintro e w1 ⟨rfl, rfl⟩
        go_wp2_with fail
        exact bodyPost_ret (v := .int .i64 0) (by simp [results, Tryz.results87, go_sem]) rfl ⟨rfl, by first | exact Below.refl _ _ | exact below_drewN (Below.refl _ _) _⟩
      · go_enter Tryz.func87, Tryz.ntmps87
        go_wp2_with fail
        refine c.mono ?_
        rintro e w1 ⟨rfl, rfl⟩
        go_wp2_with fail
        refine c2.mono ?_
        rintro e w1 ⟨rfl, rfl⟩
        go_wp2_with fail
        exact bodyPost_ret (v := .int .i64 2) (by simp [results, Tryz.results87, go_sem]) rfl ⟨rfl, by first | exact Below.refl _ _ | exact below_drewN (Below.refl _ _) _⟩
    · go_enter Tryz.func87, Tryz.ntmps87
      go_wp2_with fail
      refine c.mono ?_
      rintro e w1 ⟨rfl, rfl⟩
      go_wp2_with fail
      exact bodyPost_ret (v := .int .i64 2) (by simp [results, Tryz.results87, go_sem]) rfl ⟨rfl, by first | exact Below.refl _ _ | exact below_drewN (Below.refl _ _) _⟩
  · rw [part_all2 (by decide) ha]
    have c := cA 2 w rfl
    generalize (ts.all fun t => t == 2) = R at *
    clear cA hat two ht ha
    cases R
    · go_enter Tryz.func87, Tryz.ntmps87
      go_wp2_with fail
      refine c.mono ?_
      rintro e w1 ⟨rfl, rfl⟩
      go_wp2_with fail
      exact bodyPost_ret (v := .int .i64 0) (by simp [results, Tryz.results87, go_sem]) rfl ⟨rfl, by first | exact Below.refl _ _ | exact below_drewN (Below.refl _ _) _⟩
    · go_enter Tryz.func87, Tryz.ntmps87
      go_wp2_with fail
      refine c.mono ?_
      rintro e w1 ⟨rfl, rfl⟩
      go_wp2_with fail
      exact bodyPost_ret (v := .int .i64 2) (by simp [results, Tryz.results87, go_sem]) rfl ⟨rfl, by first | exact Below.refl _ _ | exact below_drewN (Below.refl _ _) _⟩
  · rw [part_all2 (by decide) ha]
    have c := cA 2 w rfl
    generalize (ts.all fun t => t == 2) = R at *
    clear cA hat two ht ha
    cases R
    · go_enter Tryz.func87, Tryz.ntmps87
      go_wp2_with fail
      refine c.mono ?_
      rintro e w1 ⟨rfl, rfl⟩
      go_wp2_with fail
      exact bodyPost_ret (v := .int .i64 0) (by simp [results, Tryz.results87, go_sem]) rfl ⟨rfl, by first | exact Below.refl _ _ | exact below_drewN (Below.refl _ _) _⟩
    · go_enter Tryz.func87, Tryz.ntmps87
      go_wp2_with fail
      refine c.mono ?_
      rintro e w1 ⟨rfl, rfl⟩
      go_wp2_with fail
      exact bodyPost_ret (v := .int .i64 2) (by simp [results, Tryz.results87, go_sem]) rfl ⟨rfl, by first | exact Below.refl _ _ | exact below_drewN (Below.refl _ _) _⟩
  · obtain ⟨a, b, c, rfl⟩ : ∃ a b c, ts = [a, b, c] := by
      match ts, (show ts.length = 3 by simpa [arity, eq_comm] using ha) with
      | [a, b, c], _ => exact ⟨a, b, c, rfl⟩
    obtain ⟨g, rfl, hcc⟩ := hat (by simp)
    have c0 := hcc 0 a rfl
    have c1 := hcc 1 b rfl
    have c2 := hcc 2 c rfl
    have hp : Hid (partT 18 [a, b, c] = if a = 2 ∧ b = c then b else 0) := Lib.hid (by simp [partT])
    clear cA hat two ht ha hcc
    show Calls _ _ #[.int .i64 18, .slice (some ⟨g, 0, none⟩) 3 cap] w _
    generalize partT 18 [a, b, c] = R at *
    by_cases h : a = 2
    · subst h
      by_cases h2 : b = c
      · subst h2
        go_enter Tryz.func87, Tryz.ntmps87
        go_wp2_with fail
        go_quiet (fail)
        go_wp2_with fail
        exact bodyPost_ret (v := .int .i64 b) (by simp [results, Tryz.results87, go_sem]) rfl ⟨by rw [hp.out]; simp [*], by first | exact Below.refl _ _ | exact below_drewN (Below.refl _ _) _⟩
      · have hz : (b == c) = false := beq_eq_false_iff_ne.2 h2
        go_enter Tryz.func87, Tryz.ntmps87
        go_wp2_with fail
        go_quiet (fail)
        go_wp2_with fail
        exact bodyPost_ret (v := .int .i64 0) (by simp [results, Tryz.results87, go_sem]) rfl ⟨by rw [hp.out]; simp [*], by first | exact Below.refl _ _ | exact below_drewN (Below.refl _ _) _⟩
    · have hz : (a == 2) = false := beq_eq_false_iff_ne.2 h
      go_enter Tryz.func87, Tryz.ntmps87
      go_wp2_with fail
      go_quiet (fail)
      go_wp2_with fail
      exact bodyPost_ret (v := .int .i64 0) (by simp [results, Tryz.results87, go_sem]) rfl ⟨by rw [hp.out]; simp [*], by first | exact Below.refl _ _ | exact below_drewN (Below.refl _ _) _⟩
  · obtain ⟨a, rfl⟩ := List.length_eq_one_iff.1 (show ts.length = 1 by simpa [arity, eq_comm] using ha)
    obtain ⟨g, rfl, hcc⟩ := hat (by simp)
    have c0 := hcc 0 a rfl
    have hp : Hid (partT 19 [a] = if a = 3 then 1 else 0) := Lib.hid (by simp [partT])
    clear cA hat two ht ha hcc
    show Calls _ _ #[.int .i64 19, .slice (some ⟨g, 0, none⟩) 1 cap] w _
    generalize partT 19 [a] = R at *
    by_cases h : a = 3
    · subst h
      go_enter Tryz.func87, Tryz.ntmps87
      go_wp2_with fail
      exact bodyPost_ret (v := .int .i64 1) (by simp [results, Tryz.results87, go_sem]) rfl ⟨by rw [hp.out]; simp [*], by first | exact Below.refl _ _ | exact below_drewN (Below.refl _ _) _⟩
    · have hz : (a == 3) = false := beq_eq_false_iff_ne.2 h
      go_enter Tryz.func87, Tryz.ntmps87
      go_wp2_with fail
      exact bodyPost_ret (v := .int .i64 0) (by simp [results, Tryz.results87, go_sem]) rfl ⟨by rw [hp.out]; simp [*], by first | exact Below.refl _ _ | exact below_drewN (Below.refl _ _) _⟩
  · rw [part_all3 (by decide) ha]
    have c := cA 3 w rfl
    generalize (ts.all fun t => t == 3) = R at *
    clear cA hat two ht ha
    cases R
    · go_enter Tryz.func87, Tryz.ntmps87
      go_wp2_with fail
      refine c.mono ?_
      rintro e w1 ⟨rfl, rfl⟩
      go_wp2_with fail
      exact bodyPost_ret (v := .int .i64 0) (by simp [results, Tryz.results87, go_sem]) rfl ⟨rfl, by first | exact Below.refl _ _ | exact below_drewN (Below.refl _ _) _⟩
    · go_enter Tryz.func87, Tryz.ntmps87
      go_wp2_with fail
      refine c.mono ?_
      rintro e w1 ⟨rfl, rfl⟩
      go_wp2_with fail
      exact bodyPost_ret (v := .int .i64 3) (by simp [results, Tryz.results87, go_sem]) rfl ⟨rfl, by first | exact Below.refl _ _ | exact below_drewN (Below.refl _ _) _⟩
  · obtain ⟨a, b, rfl⟩ := len_two (show ts.length = 2 by simpa [arity, eq_comm] using ha)
    obtain ⟨g, rfl, c0, c1⟩ := two a b rfl
    have hp : Hid (partT 21 [a, b] = if b = 1 ∧ a = 3 then 3 else 0) := Lib.hid (by simp [partT])
    clear cA hat two ht ha
    show Calls _ _ #[.int .i64 21, .slice (some ⟨g, 0, none⟩) 2 cap] w _
    generalize partT 21 [a, b] = R at *
    by_cases h : a = 3
    · subst h
      by_cases h2 : b = 1
      · subst h2
        go_enter Tryz.func87, Tryz.ntmps87
        go_wp2_with fail
        exact bodyPost_ret (v := .int .i64 3) (by simp [results, Tryz.results87, go_sem]) rfl ⟨by rw [hp.out]; simp [*], by first | exact Below.refl _ _ | exact below_drewN (Below.refl _ _) _⟩
      · have hz : (b == 1) = false := beq_eq_false_iff_ne.2 h2
        go_enter Tryz.func87, Tryz.ntmps87
        go_wp2_with fail
        exact bodyPost_ret (v := .int .i64 0) (by simp [results, Tryz.results87, go_sem]) rfl ⟨by rw [hp.out]; simp [*], by first | exact Below.refl _ _ | exact below_drewN (Below.refl _ _) _⟩
    · have hz : (a == 3) = false := beq_eq_false_iff_ne.2 h
      go_enter Tryz.func87, Tryz.ntmps87
      go_wp2_with fail
      exact bodyPost_ret (v := .int .i64 0) (by simp [results, Tryz.results87, go_sem]) rfl ⟨by rw [hp.out]; simp [*], by first | exact Below.refl _ _ | exact below_drewN (Below.refl _ _) _⟩
  · obtain ⟨a, rfl⟩ := List.length_eq_one_iff.1 (show ts.length = 1 by simpa [arity, eq_comm] using ha)
    have hp : Hid (partT 22 [a] = 2) := Lib.hid (by simp [partT])
    clear cA hat two ht ha
    generalize partT 22 [a] = R at *
    go_enter Tryz.func87, Tryz.ntmps87
    go_wp2_with fail
    exact bodyPost_ret (v := .int .i64 2) (by simp [results, Tryz.results87, go_sem]) rfl ⟨by rw [hp.out], by first | exact Below.refl _ _ | exact below_drewN (Below.refl _ _) _⟩
  · rw [part_all3 (by decide) ha]
    have c := cA 3 w rfl
    generalize (ts.all fun t => t == 3) = R at *
    clear cA hat two ht ha
    cases R
    · go_enter Tryz.func87, Tryz.ntmps87
      go_wp2_with fail
      refine c.mono ?_
      rintro e w1 ⟨rfl, rfl⟩
      go_wp2_with fail
      exact bodyPost_ret (v := .int .i64 0) (by simp [results, Tryz.results87, go_sem]) rfl ⟨rfl, by first | exact Below.refl _ _ | exact below_drewN (Below.refl _ _) _⟩
    · go_enter Tryz.func87, Tryz.ntmps87
      go_wp2_with fail
      refine c.mono ?_
      rintro e w1 ⟨rfl, rfl⟩
      go_wp2_with fail
      exact bodyPost_ret (v := .int .i64 3) (by simp [results, Tryz.results87, go_sem]) rfl ⟨rfl, by first | exact Below.refl _ _ | exact below_drewN (Below.refl _ _) _⟩
end Go.Proofs.YtjmfpgalepahoaaGreatDoor
