/- Loops over lists: few, free, SameInts, those, Lists. -/
import Derived.Test.YtbacphifmbjooaaGrK
namespace Go.Proofs.Ytbacphifmbjooaa
open Go.RowKit

/-- Not too many. -/
def fewB (n : Int) (L : List (List Int)) : Bool := decide (n ≤ 60 ∧ L.length ≤ 80 ∧ ∀ j, j < L.length → (rowL L j).length ≤ 80)
theorem fewB_no {n : Int} {L : List (List Int)} (h : ¬ (n ≤ 60 ∧ L.length ≤ 80 ∧ ∀ j, j < L.length → (rowL L j).length ≤ 80)) : fewB n L = false := decide_eq_false h
theorem fewB_yes {n : Int} {L : List (List Int)} (h : fewB n L = true) : n ≤ 60 ∧ L.length ≤ 80 ∧ ∀ j, j < L.length → (rowL L j).length ≤ 80 := of_decide_eq_true h
set_option maxHeartbeats 1000000 in
theorem few_any (n : Int) (A : Option Addr) (L : List (List Int)) (cap : Nat) (w : World) (hL : LL w A L) :
    Calls Try.prog 8 #[.int .i64 n, .slice A L.length cap] w fun e w' => e = .returned (.bool (fewB n L)) ∧ w' = w := by
  by_cases h0 : 60 < n
  · rw [fewB_no (by omega)]
    clear hL
    go_enter Try.func8, Try.ntmps8
    go_wp2
    go_ret
    exact ⟨rfl, rfl⟩
  by_cases h1 : 80 < L.length
  · have hz : (80 : Int) < (L.length : Int) := by omega
    rw [fewB_no (by omega)]
    clear hL
    go_enter Try.func8, Try.ntmps8
    go_wp2
    go_ret
    exact ⟨rfl, rfl⟩
  have hz : ¬ (80 : Int) < (L.length : Int) := by omega
  have HL := Lib.hid hL
  generalize hF : fewB n L = F
  have HF := Lib.hid hF
  clear hF hL
  go_enter Try.func8, Try.ntmps8
  go_wp2_with fail
  go_loopg [5] (L.length) (fun m s5 wr => ∃ k : Nat, k + m = L.length ∧ s5 = .int .i64 (k : Int) ∧ wr = w ∧ Hid (∀ j, j < k → (rowL L j).length ≤ 80))
  case atStart => exact ⟨0, by omega, rfl, rfl, Lib.hid fun j hj => by omega⟩
  case round =>
    obtain ⟨k, hkm, rfl, rfl, HK⟩ := hrel
    have HKM := Lib.hid hkm
    by_cases hk : k < L.length
    · have hkz : (k : Int) < (L.length : Int) := by omega
      obtain ⟨b, off, B, c, rfl, hc, -⟩ := HL.out.at hk
      clear hkm
      by_cases h80 : 80 < (rowL L k).length
      · have h8z : (80 : Int) < ((rowL L k).length : Int) := by omega
        have H0 := Lib.hid (show false = F by rw [← HF.out]; exact (fewB_no (fun h => by have := h.2.2 k hk; omega)).symm)
        generalize rowL L k = l at *
        go_wp2_with fail
        go_ret
        exact ⟨by rw [← H0.out]; rfl, rfl⟩
      · have h8z : ¬ (80 : Int) < ((rowL L k).length : Int) := by omega
        have HS := Lib.hid (show ∀ j, j < k + 1 → (rowL L j).length ≤ 80 from fun j hj => by
          by_cases e : j = k
          · subst e; omega
          · exact HK.out j (by omega))
        generalize rowL L k = l at *
        go_wp2_with fail
        go_roundg (L.length - (k + 1))
        case measure => have := HKM.out; omega
        case rel => exact ⟨k + 1, by have := HKM.out; omega, by go_num, rfl, HS⟩
    · have hkz : ¬ (k : Int) < (L.length : Int) := by omega
      have H0 := Lib.hid (show true = F by rw [← HF.out]; exact (decide_eq_true (by exact ⟨by omega, by omega, fun j hj => HK.out j (by omega)⟩)).symm)
      clear hkm
      go_wp2_with fail
      go_ret
      exact ⟨by rw [← H0.out]; rfl, rfl⟩

theorem getD_at {l : List Int} {k : Nat} (h : k < l.length) : l.getD k 0 = l[k] := by rw [List.getD_eq_getElem?_getD, List.getElem?_eq_getElem h]; rfl
theorem is_at {w : World} {A : Option Addr} {l : List Int} (h : Is w A l) {k : Nat} (hk : k < l.length) : ∃ b off, A = some ⟨b, off, none⟩ ∧ w.cell? ⟨b, off + k, none⟩ = some (.int .i64 l[k]) := by
  obtain ⟨b, off, e, hc⟩ := h (by omega)
  exact ⟨b, off, e, by rw [hc k hk, getD_at hk]⟩
theorem freeB_true {n : Nat} {l : List Int} {D : Nat → Bool} (h : ∀ j (hj : j < l.length), inn n l[j] = true → D (l[j]).toNat = true) : freeB n l D = true := by
  rw [freeB_iff]
  intro x hx hi
  obtain ⟨j, hj, rfl⟩ := List.getElem_of_mem hx
  exact h j hj hi
set_option maxHeartbeats 2000000 in
theorem free_any (n : Nat) (B : Option Addr) (l : List Int) (c gd : Nat) (D : Nat → Bool) (w : World) (hl : l.length ≤ 17592186044416) (hB : Is w B l) (hD : w.rowIs gd 4 n (fun j => .bool (D j))) :
    Calls Try.prog 30 #[.int .i64 (n : Int), .slice B l.length c, .slice (some ⟨gd, 0, none⟩) n n] w fun e w' => e = .returned (.bool (freeB n l D)) ∧ w' = w := by
  have HB := Lib.hid hB
  have HD := Lib.hid hD
  generalize hF : freeB n l D = F
  have HF := Lib.hid hF
  clear hF hB hD
  go_enter Try.func30, Try.ntmps30
  go_wp2_with fail
  go_loopg [7] (l.length) (fun m s7 wr => ∃ k : Nat, k + m = l.length ∧ s7 = .int .i64 (k : Int) ∧ wr = w ∧ Hid (∀ j (hj : j < l.length), j < k → inn n l[j] = true → D (l[j]).toNat = true))
  case atStart => exact ⟨0, by omega, rfl, rfl, Lib.hid fun j _ hj => by omega⟩
  case round =>
    obtain ⟨k, hkm, rfl, rfl, HK⟩ := hrel
    have HKM := Lib.hid hkm
    by_cases hk : k < l.length
    · have hkz : (k : Int) < (l.length : Int) := by omega
      obtain ⟨b, off, rfl, hc⟩ := is_at HB.out hk
      have HX := Lib.hid (show l[k] ∈ l from List.getElem_mem hk)
      obtain ⟨x, hx⟩ : ∃ x, x = l[k] := ⟨_, rfl⟩
      have HXE := Lib.hid hx
      rw [← hx] at hc HX
      clear hkm hx
      have next : (inn n x = true → D x.toNat = true) → Hid (∀ j (hj : j < l.length), j < k + 1 → inn n l[j] = true → D (l[j]).toNat = true) := fun hn => Lib.hid fun j hj hjk => by
        by_cases e : j = k
        · subst e; rw [← HXE.out]; exact hn
        · exact HK.out j hj (by omega)
      by_cases h0 : 0 ≤ x
      · by_cases h1 : x < (n : Int)
        · obtain ⟨m, rfl⟩ : ∃ m : Nat, x = (m : Int) := ⟨x.toNat, by omega⟩
          have hm : m < n := by omega
          have cd := HD.out.cell hm
          cases hd : D m with
          | true =>
            rw [hd] at cd
            have HS := next fun _ => by simpa using hd
            clear next hd
            go_wp2_with fail
            go_roundg (l.length - (k + 1))
            case measure => have := HKM.out; omega
            case rel => exact ⟨k + 1, by have := HKM.out; omega, by go_num, rfl, HS⟩
          | false =>
            rw [hd] at cd
            have H0 := Lib.hid (show false = F by rw [← HF.out]; exact (freeB_not HX.out (inn_nat hm) (by simpa using hd)).symm)
            clear next hd
            go_wp2_with fail
            go_ret
            exact ⟨by rw [← H0.out]; rfl, rfl⟩
        · have HS := next fun hi => absurd (inn_iff.1 hi).2 h1
          clear next
          go_wp2_with fail
          go_roundg (l.length - (k + 1))
          case measure => have := HKM.out; omega
          case rel => exact ⟨k + 1, by have := HKM.out; omega, by go_num, rfl, HS⟩
      · have HS := next fun hi => absurd (inn_iff.1 hi).1 h0
        clear next
        go_wp2_with fail
        go_roundg (l.length - (k + 1))
        case measure => have := HKM.out; omega
        case rel => exact ⟨k + 1, by have := HKM.out; omega, by go_num, rfl, HS⟩
    · have hkz : ¬ (k : Int) < (l.length : Int) := by omega
      have H0 := Lib.hid (show true = F by rw [← HF.out]; exact (freeB_true fun j hj => HK.out j hj (by omega)).symm)
      clear hkm
      go_wp2_with fail
      go_ret
      exact ⟨by rw [← H0.out]; rfl, rfl⟩

set_option maxHeartbeats 2000000 in
theorem same_any (A B : Option Addr) (X Y : List Int) (ca cb : Nat) (w : World) (hl : X.length ≤ 17592186044416) (hA : Is w A X) (hB : Is w B Y) :
    Calls Try.prog 13 #[.slice A X.length ca, .slice B Y.length cb] w fun e w' => e = .returned (.bool (decide (X = Y))) ∧ Below w.heap.size w w' := by
  by_cases hlen : X.length = Y.length
  · have HA := Lib.hid hA
    have HB := Lib.hid hB
    have HE := Lib.hid hlen
    generalize hF : decide (X = Y) = F
    have HF := Lib.hid hF
    obtain ⟨N, hN⟩ : ∃ N, N = X.length := ⟨_, rfl⟩
    have hl2 : N ≤ 17592186044416 := by omega
    have HN := Lib.hid hN
    rw [← hlen, ← hN]
    clear hF hA hB hlen hN
    go_enter Try.func13, Try.ntmps13
    go_wp2_with fail
    go_loopg [5] (N) (fun m s5 wr => ∃ k : Nat, k + m = N ∧ s5 = .int .i64 (k : Int) ∧ Hid (∀ j, j < k → X[j]? = Y[j]?) ∧ Hid (Below w.heap.size w wr))
    case atStart => exact ⟨0, by omega, rfl, Lib.hid fun j hj => by omega, Lib.hid (Below.refl _ _)⟩
    case round =>
      obtain ⟨k, hkm, rfl, HK, HW⟩ := hrel
      have HKM := Lib.hid hkm
      by_cases hk : k < N
      · have hkz : (k : Int) < (N : Int) := by omega
        have hkx : k < X.length := by rw [← HN.out]; exact hk
        have hky : k < Y.length := by rw [← HE.out]; exact hkx
        obtain ⟨b, off, rfl, hc⟩ := is_at (HA.out.below HW.out) hkx
        obtain ⟨b2, off2, rfl, hc2⟩ := is_at (HB.out.below HW.out) hky
        have HXe := Lib.hid (List.getElem?_eq_getElem hkx)
        have HYe := Lib.hid (List.getElem?_eq_getElem hky)
        generalize X[k] = x at *
        generalize Y[k] = y at *
        clear hkm hkx hky
        by_cases hxy : x = y
        · subst hxy
          have HS := Lib.hid (show ∀ j, j < k + 1 → X[j]? = Y[j]? from fun j hj => by
            by_cases e : j = k
            · subst e; rw [HXe.out, HYe.out]
            · exact HK.out j (by omega))
          have hne : (x != x) = false := by simp
          go_wp2_with fail
          go_quiet (fail)
          go_wp2_with fail
          go_roundg (N - (k + 1))
          case measure => have := HKM.out; omega
          case rel => exact ⟨k + 1, by have := HKM.out; omega, by go_num, HS, Lib.hid (below_drw HW.out _)⟩
        · have hne : (x != y) = true := by simpa using hxy
          have H0 := Lib.hid (show false = F by
            rw [← HF.out]
            exact (decide_eq_false (fun e => hxy (by have := HXe.out.symm.trans ((congrArg (fun l => l[k]?) e).trans HYe.out); simpa using this))).symm)
          clear hxy
          go_wp2_with fail
          go_quiet (fail)
          go_wp2_with fail
          go_ret
          exact ⟨by rw [← H0.out]; rfl, below_drw HW.out _⟩
      · have hkz : ¬ (k : Int) < (N : Int) := by omega
        have H0 := Lib.hid (show true = F by
          rw [← HF.out]
          refine (decide_eq_true ?_).symm
          refine List.ext_getElem? fun j => ?_
          by_cases hj : j < k
          · exact HK.out j hj
          · have h1 := HN.out
            have h2 := HE.out
            rw [List.getElem?_eq_none (by omega), List.getElem?_eq_none (by omega)])
        clear hkm
        go_wp2_with fail
        go_ret
        exact ⟨by rw [← H0.out]; rfl, HW.out⟩
  · have hz : ((X.length : Int) != (Y.length : Int)) = true := by simp; omega
    rw [decide_eq_false (fun e => hlen (by rw [e]))]
    clear hA hB hlen
    generalize X.length = p at *
    generalize Y.length = q at *
    go_enter Try.func13, Try.ntmps13
    go_wp2
    go_ret
    exact ⟨rfl, Below.refl _ _⟩

/-- A number more in a row of the call's own. -/
theorem zs_snoc (l : List Int) (z : Int) : zs l ++ [.int .i64 z] = zs (l ++ [z]) := by simp [zs]
theorem iz_snoc (l : List Nat) (k : Nat) : iz l ++ [(k : Int)] = iz (l ++ [k]) := by simp [iz]
set_option maxHeartbeats 2000000 in
theorem those_any (n gd : Nat) (D : Nat → Bool) (c : Bool) (w : World) (hn : n ≤ 4096) (hD : w.rowIs gd 4 n (fun j => .bool (D j))) :
    Calls Try.prog 25 #[.slice (some ⟨gd, 0, none⟩) n n, .bool c] w (OwnInts w (iz (those n D c))) := by
  obtain ⟨i0, hi, hz0, hz1, hz2⟩ := info_parts info_int
  have HD := Lib.hid hD
  have hs := hD.lt
  generalize hF : iz (those n D c) = F
  have HF := Lib.hid hF
  clear hF hD
  go_enter Try.func25, Try.ntmps25
  go_wp2_with fail
  go_loopg [5, 10] (n) (fun m s5 s10 wr => ∃ k : Nat, k + m = n ∧ s10 = .int .i64 (k : Int) ∧ Hid (OwnZ wr w.heap.size s5 (iz (those k D c))) ∧ Hid (Below w.heap.size w wr))
  case atStart => exact ⟨0, by omega, rfl, Lib.hid (World.ownsRow_nil _ _ _ _), Lib.hid (Below.refl _ _)⟩
  case round =>
    obtain ⟨k, hkm, rfl, HO, HW⟩ := hrel
    have HKM := Lib.hid hkm
    by_cases hk : k < n
    · have hkz : (k : Int) < (n : Int) := by omega
      have cd := (row_later HD.out HW.out).cell hk
      have hle : (iz (those k D c)).length ≤ k := by rw [iz_len]; exact those_le D c k
      have hsz := HW.out.size
      clear hkm
      by_cases hd : D k = c
      · have hbb : (D k == c) = true := by simpa using hd
        have HS := Lib.hid (show those (k + 1) D c = those k D c ++ [k] by rw [those_succ, hbb, if_pos rfl])
        rw [hd] at cd
        have hcc : (c == c) = true := by simp
        clear hd hbb
        go_wp2_with (at_builtin; refine wpList_append_own _ rfl _ _ 26 rfl w.heap.size 3 i0 (.int .i64 0) 1 8 Try.underlying26 hi hz0 hz1 hz2 rfl (by decide) _ _ _ rfl (HO.out.alloc _) ⟨wr.heap.size, 0, none⟩ 1 1 [.int .i64 (k : Int)] rfl rfl (one_cell _ _ _) ?c2 ?c3 ?c4 ?c5 ?_)
        case c2 => intro u hu; simp at hu; subst hu; rfl
        case c3 => unfold maxLen; omega
        case c4 => omega
        case c5 => rw [alloc_size]; omega
        intro v' w2 hown' hgrow' _
        have HB2 := Lib.hid ((HW.out.alloc hsz _).trans (below_own (HO.out.alloc _) hgrow' (by rw [alloc_size]; omega)))
        have HO2 : Hid (OwnZ w2 w.heap.size v' (iz (those (k + 1) D c))) := Lib.hid (by
          rw [HS.out, ← iz_snoc]
          unfold OwnZ
          rw [List.length_append, List.length_singleton, ← zs_snoc]
          exact hown')
        clear hown' hgrow'
        go_wp2_with fail
        go_roundg (n - (k + 1))
        case measure => have := HKM.out; omega
        case rel => exact ⟨k + 1, by have := HKM.out; omega, by go_num, HO2, HB2⟩
      · have hbb : (D k == c) = false := by simpa using hd
        have HS := Lib.hid (show those (k + 1) D c = those k D c by rw [those_succ, hbb]; simp)
        generalize D k = dk at *
        clear hd
        go_wp2_with fail
        go_roundg (n - (k + 1))
        case measure => have := HKM.out; omega
        case rel => exact ⟨k + 1, by have := HKM.out; omega, by go_num, by rw [HS.out]; exact HO, HW⟩
    · have hkz : ¬ (k : Int) < (n : Int) := by omega
      obtain rfl : k = n := by omega
      have HR := Lib.hid (own_ints HO.out HW.out)
      rw [HF.out] at HR
      clear hkm HO
      go_wp2_with fail
      go_ret
      exact HR.out
end Go.Proofs.Ytbacphifmbjooaa
