/- The contract of lex.escaped: what stands behind a backslash. -/
import Derived.Test.YtbeeeakcjeibgaaDoorLexD
import Derived.Test.YtbeeeakcjeibgaaDoorBytes
namespace Go.Proofs.YtbeeeakcjeibgaaDoor
open Go.RowKit

def hexD : List UInt8 := [48, 49, 50, 51, 52, 53, 54, 55, 56, 57, 97, 98, 99, 100, 101, 102]
theorem hexD_all : ∀ b : Fin 256, Lib.indexByte hexD (UInt8.ofNat b.val) = (match hexV b.val with | none => -1 | some d => (d : Int)) := by decide +kernel
theorem hexD_index (b : UInt8) : Lib.indexByte hexD b = (match hexV b.toNat with | none => -1 | some d => (d : Int)) := by
  have := hexD_all ⟨b.toNat, b.toNat_lt⟩
  rwa [UInt8.ofNat_toNat] at this
theorem shl_or (v d : Nat) (hv : v < 4096) (hd : d < 16) : bits .or .i32 ((v : Int) * 16) (d : Int) = (v : Int) * 16 + (d : Int) :=
  bits_join .i32 31 (by decide) (fun n h0 h1 => by rw [IntKind.wrap_i32]; omega) 4 _ _ (by omega) (by omega) (by omega) (by omega) (by omega) (by omega)
theorem bytes_text (w : World) (s : ByteArray) : ∃ (C : Array Value) (z : Nat × Nat) (cap : Nat), (convert 9 52 (.string s)).run Tryd.prog w = .ok (.slice (some ⟨w.heap.size, 0, none⟩) s.size cap) (w.alloc (.cells C 5 z)).drew ∧ Bs (w.alloc (.cells C 5 z)).drew (some ⟨w.heap.size, 0, none⟩) s.data.toList := by
  refine ⟨_, _, _, run_bytes_of_string w _ _ _ s Tryd.underlying9 Tryd.underlying52 Tryd.underlying5, fun _ => ⟨_, 0, rfl, fun j hj => ?_⟩⟩
  have hj2 : j < s.data.size := by simpa using hj
  rw [Nat.zero_add]
  show (w.drew.alloc _).cell? ⟨w.drew.heap.size, j, none⟩ = _
  rw [cell_of_row _ _ j _ _ _ (heap_alloc_new w.drew _), bytesRow_at s _ j hj2, List.getD_eq_getElem?_getD, List.getElem?_eq_getElem hj]
  simp
theorem wrap32_byte (c : UInt8) : wrap32 (c.toNat : Int) = (c.toNat : Int) := by
  have := c.toNat_lt
  unfold wrap32; omega
/-- What is told of a backslash: the rune and its bytes; or none. -/
def escV : Option (Nat × Nat) → Value
  | none => .tuple #[.int .i32 0, .int .i64 0]
  | some (r, m) => .tuple #[.int .i32 (r : Int), .int .i64 ((m : Int) + 1)]
theorem prefix_cons (b : UInt8) (l p : List UInt8) : Lib.hasPrefix (b :: l) (b :: p) = Lib.hasPrefix l p := by
  simp [Lib.hasPrefix, List.isPrefixOf]
theorem prefix_one (l : List UInt8) (c : UInt8) : Lib.hasPrefix l [c] = decide (l.head? = some c) := by
  cases l with
  | nil => simp [Lib.hasPrefix, List.isPrefixOf]
  | cons e r =>
    simp only [Lib.hasPrefix, List.isPrefixOf, List.head?_cons, Option.some.injEq, Bool.and_true]
    by_cases h : c = e
    · rw [h, decide_eq_true rfl]; exact beq_self_eq_true e
    · rw [decide_eq_false (fun e => h e.symm)]; exact beq_eq_false_iff_ne.2 h
theorem esc_next (v d m : Nat) (h : (v + 1) * 16 ^ (m + 1) ≤ 65536) (hd : d < 16) : v < 4096 ∧ (v * 16 + d + 1) * 16 ^ m ≤ 65536 := by
  have hp : 1 ≤ 16 ^ m := Nat.one_le_pow _ _ (by decide)
  rw [Nat.pow_succ, Nat.mul_comm (16 ^ m) 16, ← Nat.mul_assoc] at h
  have h1 : (v + 1) * 16 ≤ (v + 1) * 16 * 16 ^ m := Nat.le_mul_of_pos_right _ hp
  refine ⟨by omega, Nat.le_trans (Nat.mul_le_mul_right _ (by omega)) h⟩

set_option maxHeartbeats 4000000 in
set_option maxRecDepth 100000 in
theorem escaped_any (t : ByteArray) (l : List UInt8) (w : World) (hs : t.size ≤ 1099511627776) (ht : t.data.toList = 92 :: l) :
    Calls Tryd.prog 55 #[.string t] w fun e w' => e = .returned (escV (escB l)) ∧ Below w.heap.size w w' := by
  have c1 := fun w => hasPrefix_any t ⟨#[92, 34]⟩ w
  have c2 := fun w => hasPrefix_any t ⟨#[92, 92]⟩ w
  have c3 := fun w => hasPrefix_any t ⟨#[92, 117]⟩ w
  have hsz : l.length + 1 = t.size := by rw [← size_list, ht]; rfl
  have hg : ∀ (i : Nat) (h : i + 1 < t.size), l[i]? = some t[i + 1] := fun i h => by
    have : t.data.toList[i + 1]? = some t[i + 1] := by rw [List.getElem?_eq_getElem (by rw [size_list]; exact h)]; rfl
    rw [ht] at this; exact this
  have hx26 : 6 ≤ t.size → (t.extract 2 6).size = 4 ∧ (t.extract 2 6).data.toList = (l.drop 1).take 4 := fun h => by
    have e : (t.extract 2 6).data.toList = (l.drop 1).take 4 := by rw [Lib.extract_data, ht]; rfl
    refine ⟨?_, e⟩
    rw [← size_list, e, List.length_take, List.length_drop]; omega
  simp only [ht, prefix_cons, prefix_one] at c1
  simp only [ht, prefix_cons, prefix_one] at c2
  simp only [ht, prefix_cons, prefix_one] at c3
  have HG := Lib.hid hg
  have HX := Lib.hid hx26
  clear ht hg hx26
  obtain ⟨O, hO⟩ : ∃ O, escB l = O := ⟨_, rfl⟩
  rw [hO]
  cases l with
  | nil =>
    simp only [List.head?_nil, reduceCtorEq, decide_false] at c1 c2 c3
    subst hO
    go_enter Tryd.func55, Tryd.ntmps55
    go_wp2_with fail
    refine (c1 _).mono ?_
    rintro e w1 ⟨rfl, rfl⟩
    go_wp2_with fail
    refine (c2 _).mono ?_
    rintro e w2 ⟨rfl, rfl⟩
    go_wp2_with fail
    refine (c3 _).mono ?_
    rintro e w3 ⟨rfl, rfl⟩
    go_wp2_with fail
    go_ret2
    exact ⟨rfl, Below.refl _ _⟩
  | cons b r =>
    simp only [List.head?_cons, Option.some.injEq] at c1 c2 c3
    simp only [List.length_cons] at hsz
    have hlt : (1 : Int) < (t.size : Int) := by omega
    have hb1 : b = t[1]'(by omega) := by
      have := HG.out 0 (by omega)
      injection this
    unfold escB at hO
    dsimp only at hO
    by_cases h34 : b = 34
    · have e34 : b.toNat = 34 := by rw [h34]; rfl
      rw [if_pos (.inl e34)] at hO
      rw [hb1] at hO
      have HO := Lib.hid hO
      simp only [h34, decide_true] at c1
      clear c2 c3 hO hb1 h34 e34
      go_enter Tryd.func55, Tryd.ntmps55
      go_wp2_with fail
      refine (c1 _).mono ?_
      rintro e w1 ⟨rfl, rfl⟩
      go_wp2_with fail
      go_ret2
      exact ⟨by rw [← HO.out, wrap32_byte]; rfl, Below.refl _ _⟩
    · simp only [h34, decide_false] at c1
      by_cases h92 : b = 92
      · have e92 : b.toNat = 92 := by rw [h92]; rfl
        rw [if_pos (.inr e92)] at hO
        rw [hb1] at hO
        have HO := Lib.hid hO
        simp only [h92, decide_true] at c2
        clear c3 hO hb1 h92 e92 h34
        go_enter Tryd.func55, Tryd.ntmps55
        go_wp2_with fail
        refine (c1 _).mono ?_
        rintro e w1 ⟨rfl, rfl⟩
        go_wp2_with fail
        refine (c2 _).mono ?_
        rintro e w2 ⟨rfl, rfl⟩
        go_wp2_with fail
        go_ret2
        exact ⟨by rw [← HO.out, wrap32_byte]; rfl, Below.refl _ _⟩
      · simp only [h92, decide_false] at c2
        rw [if_neg (by
          rintro (h | h)
          · exact h34 (UInt8.toNat_inj.1 h)
          · exact h92 (UInt8.toNat_inj.1 h))] at hO
        by_cases h117 : b = 117
        · have e117 : b.toNat = 117 := by rw [h117]; rfl
          simp only [h117, decide_true] at c3
          rw [if_pos e117] at hO
          clear hb1 h117 e117 h34 h92
          by_cases h6 : t.size < 6
          · have hz : (t.size : Int) < 6 := by omega
            have hn : digsB 4 0 r = none := by
              cases hd : digsB 4 0 r with
              | none => rfl
              | some u => have := (digsB_lt 4 0 r u hd).1; omega
            rw [hn] at hO
            dsimp only at hO
            subst hO
            clear hn
            go_enter Tryd.func55, Tryd.ntmps55
            go_wp2_with fail
            refine (c1 _).mono ?_
            rintro e w1 ⟨rfl, rfl⟩
            go_wp2_with fail
            refine (c2 _).mono ?_
            rintro e w2 ⟨rfl, rfl⟩
            go_wp2_with fail
            refine (c3 _).mono ?_
            rintro e w3 ⟨rfl, rfl⟩
            go_wp2_with fail
            go_ret2
            exact ⟨rfl, Below.refl _ _⟩
          · have hz : ¬ (t.size : Int) < 6 := by omega
            have hz6 : (6 : Int) ≤ (t.size : Int) := by omega
            obtain ⟨hx4, hxl⟩ := HX.out (by omega)
            obtain ⟨C, z, cap, hconv, hBs⟩ := bytes_text w (t.extract 2 6)
            rw [hx4] at hconv
            rw [hxl] at hBs
            have hb0 : Below w.heap.size w (w.alloc (.cells C 5 z)).drew := ((Below.refl _ w).alloc (Nat.le_refl _) _).drew
            obtain ⟨w2, hw2⟩ : ∃ w2, (w.alloc (.cells C 5 z)).drew = w2 := ⟨_, rfl⟩
            rw [hw2] at hconv hBs hb0
            obtain ⟨g, off, hA, hc⟩ := hBs (by simp only [List.drop_succ_cons, List.drop_zero, List.length_take]; omega)
            injection hA with hA
            injection hA with hA1 hA2
            subst hA1 hA2
            have hcell : ∀ k c, k < 4 → r[k]? = some c → w2.cell? ⟨w.heap.size, k, none⟩ = some (.int .u8 (c.toNat : Int)) := fun k c hk hc2 => by
              have := hc k (by simp only [List.drop_succ_cons, List.drop_zero, List.length_take]; omega)
              rw [Nat.zero_add] at this
              rw [this, List.getD_eq_getElem?_getD, List.getElem?_take, if_pos hk, List.drop_succ_cons, List.drop_zero, hc2]; rfl
            have HC := Lib.hid hcell
            have HO := Lib.hid hO
            have hr4 : 4 ≤ r.length := by omega
            clear hw2 hx4 hxl hcell hc hBs hO
            go_enter Tryd.func55, Tryd.ntmps55
            go_wp2_with fail
            refine (c1 _).mono ?_
            rintro e w1 ⟨rfl, rfl⟩
            go_wp2_with fail
            refine (c2 _).mono ?_
            rintro e w2 ⟨rfl, rfl⟩
            go_wp2_with fail
            refine (c3 _).mono ?_
            rintro e w3 ⟨rfl, rfl⟩
            clear c1 c2 c3
            go_wp2_with fail
            go_loopg [4, 29] 4 (fun n s4 s29 wy => ∃ k v : Nat, k + n = 4 ∧ s29 = .int .i64 (k : Int) ∧ s4 = .int .i32 (v : Int) ∧ Hid (digsB 4 0 r = digsB n v (r.drop k)) ∧ (v + 1) * 16 ^ n ≤ 65536 ∧ wy = w2)
            case atStart => exact ⟨0, 0, rfl, rfl, rfl, Lib.hid (by rw [List.drop_zero]), by decide, rfl⟩
            case round =>
              obtain ⟨k, v, hk, rfl, rfl, HD, hv, rfl⟩ := hrel
              cases gk with
              | zero =>
                obtain rfl : k = 4 := by omega
                have hd : digsB 4 0 r = some v := by rw [HD.out]; rfl
                have hO := HO.out
                rw [hd] at hO
                dsimp only at hO
                have hv6 : v < 65536 := by simp only [Nat.pow_zero] at hv; omega
                clear hv hd HD
                by_cases hs1 : 55296 ≤ v
                · have hz1 : (55296 : Int) ≤ (v : Int) := by omega
                  by_cases hs2 : v ≤ 57343
                  · rw [if_pos ⟨hs1, hs2⟩] at hO
                    subst hO
                    have hz2 : (v : Int) ≤ 57343 := by omega
                    go_wp2_with fail
                    go_ret2
                    exact ⟨rfl, hb0⟩
                  · rw [if_neg (fun h => hs2 h.2)] at hO
                    subst hO
                    have hz2 : ¬ (v : Int) ≤ 57343 := by omega
                    go_wp2_with fail
                    go_ret2
                    exact ⟨rfl, hb0⟩
                · rw [if_neg (fun h => hs1 h.1)] at hO
                  subst hO
                  have hz1 : ¬ (55296 : Int) ≤ (v : Int) := by omega
                  go_wp2_with fail
                  go_ret2
                  exact ⟨rfl, hb0⟩
              | succ n =>
                have hk4 : k < 4 := by omega
                have hkz : (k : Int) < 4 := by omega
                obtain ⟨c, hcr⟩ : ∃ c, r[k]? = some c := ⟨_, List.getElem?_eq_getElem (by omega)⟩
                have hce := HC.out k c hk4 hcr
                have cI := fun w => indexByte_any ⟨#[48, 49, 50, 51, 52, 53, 54, 55, 56, 57, 97, 98, 99, 100, 101, 102]⟩ (c.toNat : Int) w
                have hcs : ((c.toNat : Int)).toNat.toUInt8 = c := by simp
                have hi := hexD_index c
                unfold hexD at hi
                simp only [hcs, hi] at cI
                have hdrop : r.drop k = c :: r.drop (k + 1) := by
                  obtain ⟨h1, h2⟩ := List.getElem?_eq_some_iff.1 hcr
                  rw [← h2]; exact List.drop_eq_getElem_cons h1
                cases hh : hexV c.toNat with
                | none =>
                  have hd : digsB 4 0 r = none := by rw [HD.out, hdrop]; unfold digsB; rw [hh]
                  have hO := HO.out
                  rw [hd] at hO
                  dsimp only at hO
                  subst hO
                  simp only [hh] at cI
                  clear hd hdrop hi hcs hh hv hcr HD HO
                  go_wp2_with fail
                  refine (cI _).mono ?_
                  rintro e w4 ⟨rfl, rfl⟩
                  go_wp2_with fail
                  go_ret2
                  exact ⟨rfl, hb0⟩
                | some d =>
                  have hd16 := (hexV_some hh).2
                  have hnx : digsB 4 0 r = digsB n (v * 16 + d) (r.drop (k + 1)) := by
                    rw [HD.out, hdrop]
                    conv => lhs; unfold digsB
                    rw [hh]
                  obtain ⟨hv4, hv2⟩ := esc_next v d n hv hd16
                  have hor := shl_or v d hv4 hd16
                  simp only [hh] at cI
                  have HN := Lib.hid hnx
                  have HV := Lib.hid hv2
                  clear hnx hdrop hi hcs hh hv hcr HD hv2
                  go_wp2_with fail
                  refine (cI _).mono ?_
                  rintro e w4 ⟨rfl, rfl⟩
                  go_wp2_with fail
                  go_roundg n
                  case measure => omega
                  case rel => exact ⟨k + 1, v * 16 + d, by omega, by go_num, by go_num, HN, HV.out, rfl⟩
        · simp only [h117, decide_false] at c3
          rw [if_neg (fun h : b.toNat = 117 => h117 (UInt8.toNat_inj.1 h))] at hO
          subst hO
          clear hb1 h117 h34 h92
          go_enter Tryd.func55, Tryd.ntmps55
          go_wp2_with fail
          refine (c1 _).mono ?_
          rintro e w1 ⟨rfl, rfl⟩
          go_wp2_with fail
          refine (c2 _).mono ?_
          rintro e w2 ⟨rfl, rfl⟩
          go_wp2_with fail
          refine (c3 _).mono ?_
          rintro e w3 ⟨rfl, rfl⟩
          go_wp2_with fail
          go_ret2
          exact ⟨rfl, Below.refl _ _⟩
end Go.Proofs.YtbeeeakcjeibgaaDoor
