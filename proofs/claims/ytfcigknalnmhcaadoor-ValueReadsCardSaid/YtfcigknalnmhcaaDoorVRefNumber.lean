/- The contract of the document's own number. -/
import Derived.Test.YtfcigknalnmhcaaDoorVShow
import Derived.Lib.ItoaLen
import Derived.Test.YtfcigknalnmhcaaDoorVBase
import Derived.IntWalk
namespace Go.Proofs.YtfcigknalnmhcaaDoor
/- Plain mathematics: the value of a row of digits, read from its front. No program stands in this text. -/
section
open Go.Lib

/-- What digits come to. -/
def valN (l : List UInt8) : Nat := l.foldl (fun a c => a * 10 + (c.toNat - 48)) 0
theorem valN_snoc (l : List UInt8) (c : UInt8) : valN (l ++ [c]) = valN l * 10 + (c.toNat - 48) := by simp [valN]
theorem valN_nil : valN [] = 0 := rfl
theorem valN_digits (u : Nat) : valN (decDigits u) = u := by
  induction u using Nat.strongRecOn with
  | _ u ih =>
    by_cases h : u < 10
    · rw [decDigits_one h]
      show 0 * 10 + ((UInt8.ofNat (48 + u)).toNat - 48) = u
      rw [u8_nat _ (by omega)]; omega
    · rw [decDigits_big u (by omega), valN_snoc, ih (u / 10) (by omega), u8_nat _ (by omega)]; omega
theorem valN_take (l : List UInt8) (k : Nat) (c : UInt8) (h : l[k]? = some c) : valN (l.take (k + 1)) = valN (l.take k) * 10 + (c.toNat - 48) := by
  rw [List.take_add_one, h]; exact valN_snoc _ _
theorem valN_mono (a : List UInt8) : ∀ b : List UInt8, valN a ≤ valN (a ++ b) := by
  intro b
  have : ∀ (b : List UInt8) (x : Nat), x ≤ b.foldl (fun a c => a * 10 + (c.toNat - 48)) x := by
    intro b
    induction b with
    | nil => intro x; exact Nat.le_refl _
    | cons c b ih => intro x; exact Nat.le_trans (by omega) (ih (x * 10 + (c.toNat - 48)))
  unfold valN; rw [List.foldl_append]; exact this b _
/-- Ahead of a digit there is at most a tenth. -/
theorem valN_tenth (l : List UInt8) (k : Nat) (h : k < l.length) : valN (l.take k) * 10 ≤ valN l := by
  have h1 := valN_take l k _ (List.getElem?_eq_getElem h)
  have h2 := valN_mono (l.take (k + 1)) (l.drop (k + 1))
  rw [List.take_append_drop] at h2
  omega
theorem len19 (u : Nat) (h : u ≤ 9223372036854775808) : (decDigits u).length ≤ 19 := by
  rw [decDigits_length]
  by_cases h0 : u < 10
  · rw [nDigits_small h0]; omega
  · apply Nat.le_of_not_lt
    intro hlt
    have key : ∀ (k u : Nat), 10 ≤ u → k < nDigits u → 10 ^ k ≤ u := by
      intro k
      induction k with
      | zero => intro u hu _; omega
      | succ k ih =>
        intro u hu hk
        rw [nDigits_big (by omega)] at hk
        by_cases h1 : u / 10 < 10
        · rw [nDigits_small h1] at hk
          obtain rfl : k = 0 := by omega
          omega
        · have := ih (u / 10) (by omega) (by omega)
          rw [Nat.pow_succ]; omega
    have := key 19 u (by omega) hlt
    omega
/-- The digits of a number behind its sign. -/
def tailN (l : List UInt8) : List UInt8 := if l.head? = some 45 then l.drop 1 else l
theorem itoa_tail (z : Int) : tailN (itoa z) = decDigits z.natAbs := by
  unfold tailN
  by_cases hz : z < 0
  · obtain ⟨u, rfl⟩ : ∃ u : Nat, z = -(u : Int) := ⟨z.natAbs, by omega⟩
    rw [itoa_neg u (by omega)]
    simp
  · obtain ⟨u, rfl⟩ : ∃ u : Nat, z = (u : Int) := ⟨z.toNat, by omega⟩
    rw [itoa_nonneg u]
    have hne : (decDigits u).head? ≠ some 45 := by
      cases hd : decDigits u with
      | nil => simp
      | cons c r =>
        have := decDigits_digit u c (by rw [hd]; simp)
        intro e
        simp only [List.head?_cons, Option.some.injEq] at e
        rw [e] at this
        exact absurd this.1 (by decide)
    rw [if_neg hne]; rfl
end
/- The contract of the document's own number: whatever the text, some number; of a number's own digits, that number. -/
section
open Go.RowKit Go.Lib

/-- What is told of a text that may be a number's. -/
def NumEnd5 (l : List UInt8) (n : Int) (b : Bool) : Prop :=
  -9223372036854775808 ≤ n ∧ n ≤ 9223372036854775807 ∧ (∀ z : Int, -9223372036854775808 ≤ z → z ≤ 9223372036854775807 → l = itoa z → b = true ∧ n = z) ∧ (b = true → ∃ c r, l = c :: r ∧ ((c.toNat = 45 ∧ r ≠ []) ∨ (48 ≤ c.toNat ∧ c.toNat ≤ 57)))
def SomeNum (l : List UInt8) (e : Ending) : Prop := ∃ n b, e = .returned (.tuple #[.int .i64 n, .bool b]) ∧ NumEnd5 l n b
theorem num_no {l : List UInt8} (h : ∀ z : Int, -9223372036854775808 ≤ z → z ≤ 9223372036854775807 → l ≠ itoa z) : NumEnd5 l 0 false := ⟨by decide, by decide, fun z h0 h1 e => absurd e (h z h0 h1), fun h => by cases h⟩
/-- Where the digits begin. -/
def i0N (l : List UInt8) : Nat := if l.head? = some 45 then 1 else 0
theorem tailN_drop (l : List UInt8) : tailN l = l.drop (i0N l) := by unfold tailN i0N; split <;> rfl
theorem itoa_digits {l : List UInt8} {z : Int} (h : l = itoa z) : l.drop (i0N l) = decDigits z.natAbs := by rw [← tailN_drop, h, itoa_tail]
/-- A number's text: how long; that it is not too great ahead of each of its digits. -/
theorem itoa_fits {l : List UInt8} {z : Int} (h0 : -9223372036854775808 ≤ z) (h1 : z ≤ 9223372036854775807) (h : l = itoa z) : i0N l < l.length ∧ l.length ≤ 20 := by
  have hd := itoa_digits h
  have h2 := len19 z.natAbs (by omega)
  have h3 : (decDigits z.natAbs).length ≠ 0 := fun e => decDigits_ne _ (List.length_eq_zero_iff.1 e)
  have h4 : i0N l ≤ 1 := by unfold i0N; split <;> omega
  rw [← hd, List.length_drop] at h2 h3
  omega
/-- The digits so far. -/
def NRel (l : List UInt8) (i u : Nat) : Prop := i0N l ≤ i ∧ i ≤ l.length ∧ u = valN ((l.drop (i0N l)).take (i - i0N l)) ∧ (∀ j c, i0N l ≤ j → j < i → l[j]? = some c → 48 ≤ c.toNat ∧ c.toNat ≤ 57)
theorem NRel.next {l : List UInt8} {i u : Nat} (h : NRel l i u) {c : UInt8} (hc : l[i]? = some c) (h1 : 48 ≤ c.toNat) (h2 : c.toNat ≤ 57) : NRel l (i + 1) (u * 10 + (c.toNat - 48)) := by
  obtain ⟨a, b, e, f⟩ := h
  have hl := (List.getElem?_eq_some_iff.1 hc).1
  refine ⟨by omega, by omega, ?_, ?_⟩
  · rw [show i + 1 - i0N l = (i - i0N l) + 1 by omega, valN_take _ _ c (by rw [List.getElem?_drop, show i0N l + (i - i0N l) = i by omega]; exact hc), ← e]
  · intro j d hj hj2 hd
    by_cases hji : j = i
    · subst hji; rw [hc] at hd; injection hd with hd; subst hd; exact ⟨h1, h2⟩
    · exact f j d hj (by omega) hd
/-- Within a number's text no digit is refused. -/
theorem NRel.ok {l : List UInt8} {i u : Nat} (h : NRel l i u) {c : UInt8} (hc : l[i]? = some c) {z : Int} (h0 : -9223372036854775808 ≤ z) (h1 : z ≤ 9223372036854775807) (hz : l = itoa z) : 48 ≤ c.toNat ∧ c.toNat ≤ 57 ∧ u ≤ 1152921504606846976 := by
  obtain ⟨a, b, e, f⟩ := h
  have hd := itoa_digits hz
  have hl := (List.getElem?_eq_some_iff.1 hc).1
  have hg : (l.drop (i0N l))[i - i0N l]? = some c := by rw [List.getElem?_drop, show i0N l + (i - i0N l) = i by omega]; exact hc
  rw [hd] at hg e
  have hm := decDigits_digit z.natAbs c (List.mem_of_getElem? hg)
  have ht := valN_tenth (decDigits z.natAbs) (i - i0N l) (List.getElem?_eq_some_iff.1 hg).1
  rw [valN_digits, ← e] at ht
  exact ⟨hm.1, hm.2, by omega⟩
theorem NRel.done {l : List UInt8} {u : Nat} (h : NRel l l.length u) {z : Int} (hz : l = itoa z) : u = z.natAbs := by
  obtain ⟨a, b, e, f⟩ := h
  have hd := itoa_digits hz
  rw [List.take_of_length_le (by rw [List.length_drop]; omega), hd, valN_digits] at e
  exact e
theorem head_iff {l : List UInt8} {z : Int} (hz : l = itoa z) : l.head? = some 45 ↔ z < 0 := by
  obtain ⟨c, r, hc, hh⟩ := itoa_head z
  rw [hz, hc, List.head?_cons, Option.some.injEq]
  rcases hh with ⟨h, hn, _⟩ | ⟨h1, h2, hn⟩
  · exact ⟨fun _ => hn, fun _ => UInt8.toNat_inj.1 h⟩
  · exact ⟨fun e => by rw [e] at h1; exact absurd h1 (by decide), fun h => by omega⟩
end
section
open Go.RowKit Go.Lib

theorem neg64 (u : Nat) (h : u ≤ 9223372036854775808) : wrap64 (IntKind.u64.wrap (-(u : Int))) = -(u : Int) := by
  unfold wrap64
  simp only [IntKind.wrap, IntKind.bits, IntKind.signed]
  simp
  omega
set_option maxHeartbeats 4000000 in
set_option maxRecDepth 100000 in
theorem number_any (s : ByteArray) (w : World) (hs : s.size ≤ 1099511627776) :
    Calls Tryd.prog 60 #[.string s] w fun e w' => SomeNum s.data.toList e ∧ w = w' := by
  obtain ⟨l, hl⟩ : ∃ l, s.data.toList = l := ⟨_, rfl⟩
  have hsz : l.length = s.size := by rw [← hl]; exact size_list s
  have hg : ∀ (i : Nat) (h : i < s.size), l[i]? = some s[i] := fun i h => by
    rw [← hl, List.getElem?_eq_getElem (by rw [size_list]; exact h)]; rfl
  rw [hl]
  have HG := Lib.hid hg
  have HSZ := Lib.hid hsz
  clear hl hg hsz
  have hno : (∀ z : Int, -9223372036854775808 ≤ z → z ≤ 9223372036854775807 → l = itoa z → i0N l < s.size ∧ s.size ≤ 20) := fun z h0 h1 h => by
    have := itoa_fits h0 h1 h
    rw [HSZ.out] at this; exact this
  have HNO := Lib.hid hno
  clear hno
  by_cases hz : s.size = 0
  · have hE : NumEnd5 l 0 false := num_no fun z h0 h1 e => by have := HNO.out z h0 h1 e; omega
    have HE := Lib.hid hE
    have hz1 : ¬ (0 : Int) < (s.size : Int) := by omega
    have hz2 : ((0 : Int) == (s.size : Int)) = true := by rw [hz]; rfl
    clear hE hz
    go_enter Tryd.func60, Tryd.ntmps60
    go_wp2_with fail
    go_ret2
    exact ⟨⟨0, false, rfl, HE.out⟩, rfl⟩
  · have hpos : 0 < s.size := by omega
    have hposz : (0 : Int) < (s.size : Int) := by omega
    have hc0 := HG.out 0 hpos
    have hh : l.head? = some s[0] := by rw [List.head?_eq_getElem?]; exact hc0
    by_cases hneg : s[0].toNat = 45
    · have hi0 : i0N l = 1 := by unfold i0N; rw [hh, show s[0] = 45 from UInt8.toNat_inj.1 hneg]; rfl
      have t1 : ((s[0].toNat : Int) == 45) = true := by rw [hneg]; rfl
      by_cases h1 : s.size = 1
      · have hE : NumEnd5 l 0 false := num_no fun z h0 h1 e => by have := HNO.out z h0 h1 e; omega
        have HE := Lib.hid hE
        have t2 : ((1 : Int) == (s.size : Int)) = true := by rw [h1]; rfl
        clear hE hh hc0 hi0 hneg hz h1
        go_enter Tryd.func60, Tryd.ntmps60
        go_wp2_with fail
        go_ret2
        exact ⟨⟨0, false, rfl, HE.out⟩, rfl⟩
      · have t2 : ((1 : Int) == (s.size : Int)) = false := beq_eq_false_iff_ne.2 (by omega)
        by_cases h20 : 20 < s.size
        · have hE : NumEnd5 l 0 false := num_no fun z h0 h1 e => by have := HNO.out z h0 h1 e; omega
          have HE := Lib.hid hE
          have t3 : (20 : Int) < (s.size : Int) := by omega
          clear hE hh hc0 hi0 hneg hz
          go_enter Tryd.func60, Tryd.ntmps60
          go_wp2_with fail
          go_ret2
          exact ⟨⟨0, false, rfl, HE.out⟩, rfl⟩
        · have t3 : ¬ (20 : Int) < (s.size : Int) := by omega
          have hst : NRel l 1 0 := ⟨by omega, by rw [HSZ.out]; omega, by rw [hi0]; rfl, fun j c h1 h2 => by omega⟩
          have HST := Lib.hid hst
          have HH := Lib.hid hh
          have HI0 := Lib.hid hi0
          have HNEG := Lib.hid hneg
          have hs2 : 2 ≤ s.size := by omega
          clear hh hc0 hi0 hneg hz hst h1
          go_enter Tryd.func60, Tryd.ntmps60
          go_wp2_with fail
          go_loop [5, 6] (fun iv uv => ∃ i u : Nat, NRel l i u ∧ i ≤ s.size ∧ u < 18446744073709551616 ∧ iv = .int .i64 (i : Int) ∧ uv = .int .u64 (u : Int)) (fun iv _ => s.size - (Go.RowKit.intOf iv).toNat)
          case atStart => exact ⟨1, 0, HST.out, by omega, by decide, rfl, rfl⟩
          case round =>
            obtain ⟨i, u, hR, hil, hu, rfl, rfl⟩ := hrel
            have HR := Lib.hid hR
            clear hR HST t1 t2 t3
            by_cases hlt : i < s.size
            · have hltz : (i : Int) < (s.size : Int) := by omega
              have hc := HG.out i hlt
              have hok := fun z h0 h1 e => HR.out.ok hc (z := z) h0 h1 e
              have HOK := Lib.hid hok
              have HC := Lib.hid hc
              obtain ⟨c, hcc⟩ : ∃ c, s[i] = c := ⟨_, rfl⟩
              by_cases h48 : s[i].toNat < 48
              · have hE : NumEnd5 l 0 false := num_no fun z h0 h1 e => by have := HOK.out z h0 h1 e; omega
                have HE := Lib.hid hE
                have hz1 : (s[i].toNat : Int) < 48 := by omega
                clear hE hok hc hcc
                go_wp2_with fail
                go_ret2
                exact ⟨⟨0, false, rfl, HE.out⟩, rfl⟩
              · have hz1 : ¬ (s[i].toNat : Int) < 48 := by omega
                by_cases h57 : 57 < s[i].toNat
                · have hE : NumEnd5 l 0 false := num_no fun z h0 h1 e => by have := HOK.out z h0 h1 e; omega
                  have HE := Lib.hid hE
                  have hz2 : (57 : Int) < (s[i].toNat : Int) := by omega
                  clear hE hok hc hcc
                  go_wp2_with fail
                  go_ret2
                  exact ⟨⟨0, false, rfl, HE.out⟩, rfl⟩
                · have hz2 : ¬ (57 : Int) < (s[i].toNat : Int) := by omega
                  by_cases h60 : 1152921504606846976 < u
                  · have hE : NumEnd5 l 0 false := num_no fun z h0 h1 e => by have := HOK.out z h0 h1 e; omega
                    have HE := Lib.hid hE
                    have hz3 : (1152921504606846976 : Int) < (u : Int) := by omega
                    clear hE hok hc hcc
                    go_wp2_with fail
                    go_ret2
                    exact ⟨⟨0, false, rfl, HE.out⟩, rfl⟩
                  · have hz3 : ¬ (1152921504606846976 : Int) < (u : Int) := by omega
                    have hnx := HR.out.next hc (by omega) (by omega)
                    have HNX := Lib.hid hnx
                    clear hnx hok hc hcc
                    go_wp2_with fail
                    go_round
                    case rel => exact ⟨i + 1, _, HNX.out, by omega, by omega, by go_num, by congr 1; omega⟩
                    case measure => simp only [Go.RowKit.intOf]; omega
            · obtain rfl : i = s.size := by omega
              have hz1 : ¬ ((s.size : Nat) : Int) < (s.size : Int) := by omega
              have hdone : ∀ z : Int, l = itoa z → z = -(u : Int) := fun z e => by
                have h2 := HR.out
                rw [← HSZ.out] at h2
                have h3 := h2.done e
                have h4 : z < 0 := (head_iff e).1 (by rw [HH.out, show s[0] = 45 from UInt8.toNat_inj.1 HNEG.out])
                omega
              have HD := Lib.hid hdone
              clear hdone
              by_cases h63 : 9223372036854775808 < u
              · have hE : NumEnd5 l 0 false := num_no fun z h0 h1 e => by have := HD.out z e; omega
                have HE := Lib.hid hE
                have hz2 : (9223372036854775808 : Int) < (u : Int) := by omega
                clear hE
                go_wp2_with fail
                go_ret2
                exact ⟨⟨_, false, rfl, HE.out⟩, rfl⟩
              · have hE : NumEnd5 l (-(u : Int)) true := by
                  refine ⟨by omega, by omega, fun z h0 h1 e => ⟨rfl, (HD.out z e).symm⟩, fun _ => ?_⟩
                  have h3 := HH.out
                  have h5 := HSZ.out
                  cases l with
                  | nil => cases h3
                  | cons c r =>
                    rw [List.head?_cons] at h3
                    injection h3 with h3
                    refine ⟨c, r, rfl, .inl ⟨by rw [h3]; exact HNEG.out, ?_⟩⟩
                    rintro rfl
                    simp at h5; omega
                have HE := Lib.hid hE
                have hz2 : ¬ (9223372036854775808 : Int) < (u : Int) := by omega
                clear hE
                go_wp2_with fail
                go_ret2
                exact ⟨⟨_, true, rfl, by rw [neg64 u (by omega)]; exact HE.out⟩, rfl⟩
    · have hi0 : i0N l = 0 := by unfold i0N; rw [hh, if_neg (fun e => hneg (by injection e with e; rw [e]; rfl))]
      have t1 : ((s[0].toNat : Int) == 45) = false := beq_eq_false_iff_ne.2 (by omega)
      have t2 : ((0 : Int) == (s.size : Int)) = false := beq_eq_false_iff_ne.2 (by omega)
      by_cases h20 : 20 < s.size
      · have hE : NumEnd5 l 0 false := num_no fun z h0 h1 e => by have := HNO.out z h0 h1 e; omega
        have HE := Lib.hid hE
        have t3 : (20 : Int) < (s.size : Int) := by omega
        clear hE hh hc0 hi0 hneg hz
        go_enter Tryd.func60, Tryd.ntmps60
        go_wp2_with fail
        go_ret2
        exact ⟨⟨0, false, rfl, HE.out⟩, rfl⟩
      · have t3 : ¬ (20 : Int) < (s.size : Int) := by omega
        have hst : NRel l 0 0 := ⟨by omega, Nat.zero_le _, by rw [hi0]; rfl, fun j c h1 h2 => by omega⟩
        have HST := Lib.hid hst
        have HH := Lib.hid hh
        have HI0 := Lib.hid hi0
        have HNEG := Lib.hid hneg
        clear hh hc0 hi0 hneg hz hst
        go_enter Tryd.func60, Tryd.ntmps60
        go_wp2_with fail
        go_loop [5, 6] (fun iv uv => ∃ i u : Nat, NRel l i u ∧ i ≤ s.size ∧ u < 18446744073709551616 ∧ iv = .int .i64 (i : Int) ∧ uv = .int .u64 (u : Int)) (fun iv _ => s.size - (Go.RowKit.intOf iv).toNat)
        case atStart => exact ⟨0, 0, HST.out, Nat.zero_le _, by decide, rfl, rfl⟩
        case round =>
          obtain ⟨i, u, hR, hil, hu, rfl, rfl⟩ := hrel
          have HR := Lib.hid hR
          clear hR HST t1 t2 t3
          by_cases hlt : i < s.size
          · have hltz : (i : Int) < (s.size : Int) := by omega
            have hc := HG.out i hlt
            have hok := fun z h0 h1 e => HR.out.ok hc (z := z) h0 h1 e
            have HOK := Lib.hid hok
            have HC := Lib.hid hc
            obtain ⟨c, hcc⟩ : ∃ c, s[i] = c := ⟨_, rfl⟩
            by_cases h48 : s[i].toNat < 48
            · have hE : NumEnd5 l 0 false := num_no fun z h0 h1 e => by have := HOK.out z h0 h1 e; omega
              have HE := Lib.hid hE
              have hz1 : (s[i].toNat : Int) < 48 := by omega
              clear hE hok hc hcc
              go_wp2_with fail
              go_ret2
              exact ⟨⟨0, false, rfl, HE.out⟩, rfl⟩
            · have hz1 : ¬ (s[i].toNat : Int) < 48 := by omega
              by_cases h57 : 57 < s[i].toNat
              · have hE : NumEnd5 l 0 false := num_no fun z h0 h1 e => by have := HOK.out z h0 h1 e; omega
                have HE := Lib.hid hE
                have hz2 : (57 : Int) < (s[i].toNat : Int) := by omega
                clear hE hok hc hcc
                go_wp2_with fail
                go_ret2
                exact ⟨⟨0, false, rfl, HE.out⟩, rfl⟩
              · have hz2 : ¬ (57 : Int) < (s[i].toNat : Int) := by omega
                by_cases h60 : 1152921504606846976 < u
                · have hE : NumEnd5 l 0 false := num_no fun z h0 h1 e => by have := HOK.out z h0 h1 e; omega
                  have HE := Lib.hid hE
                  have hz3 : (1152921504606846976 : Int) < (u : Int) := by omega
                  clear hE hok hc hcc
                  go_wp2_with fail
                  go_ret2
                  exact ⟨⟨0, false, rfl, HE.out⟩, rfl⟩
                · have hz3 : ¬ (1152921504606846976 : Int) < (u : Int) := by omega
                  have hnx := HR.out.next hc (by omega) (by omega)
                  have HNX := Lib.hid hnx
                  clear hnx hok hc hcc
                  go_wp2_with fail
                  go_round
                  case rel => exact ⟨i + 1, _, HNX.out, by omega, by omega, by go_num, by congr 1; omega⟩
                  case measure => simp only [Go.RowKit.intOf]; omega
          · obtain rfl : i = s.size := by omega
            have hz1 : ¬ ((s.size : Nat) : Int) < (s.size : Int) := by omega
            by_cases h63 : u < 9223372036854775808
            · have hE : NumEnd5 l (u : Int) true := by
                refine ⟨by omega, by omega, fun z h0 h1 e => ⟨rfl, ?_⟩, fun _ => ?_⟩
                · have h2 := HR.out
                  rw [← HSZ.out] at h2
                  have h3 := h2.done e
                  have h4 : ¬ z < 0 := fun hz => by
                    have := (head_iff e).2 hz
                    rw [HH.out] at this
                    injection this with this
                    exact HNEG.out (by rw [this]; rfl)
                  omega
                · have h2 := HR.out.2.2.2 0 s[0] (by rw [HI0.out]; exact Nat.zero_le _) hpos (HG.out 0 hpos)
                  have h3 := HH.out
                  cases l with
                  | nil => cases h3
                  | cons c r =>
                    rw [List.head?_cons] at h3
                    injection h3 with h3
                    exact ⟨c, r, rfl, .inr (by rw [h3]; exact h2)⟩
              have HE := Lib.hid hE
              have hz2 : (u : Int) < 9223372036854775808 := by omega
              clear hE
              go_wp2_with fail
              go_ret2
              exact ⟨⟨_, true, rfl, HE.out⟩, rfl⟩
            · have hE : NumEnd5 l (wrap64 (u : Int)) false := by
                have hw : -9223372036854775808 ≤ wrap64 (u : Int) ∧ wrap64 (u : Int) ≤ 9223372036854775807 := by unfold wrap64; omega
                refine ⟨hw.1, hw.2, fun z h0 h1 e => ?_, fun h => by cases h⟩
                have h2 := HR.out
                rw [← HSZ.out] at h2
                have h3 := h2.done e
                have h4 : ¬ z < 0 := fun hz => by
                  have := (head_iff e).2 hz
                  rw [HH.out] at this
                  injection this with this
                  exact HNEG.out (by rw [this]; rfl)
                omega
              have HE := Lib.hid hE
              have hz2 : ¬ (u : Int) < 9223372036854775808 := by omega
              clear hE
              go_wp2_with fail
              go_ret2
              exact ⟨⟨_, false, rfl, HE.out⟩, rfl⟩
end
end Go.Proofs.YtfcigknalnmhcaaDoor
