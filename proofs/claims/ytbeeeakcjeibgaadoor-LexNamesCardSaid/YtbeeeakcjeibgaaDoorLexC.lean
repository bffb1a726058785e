/- The contracts of lex.control, lex.sign, lex.run. -/
import Derived.Test.YtbeeeakcjeibgaaDoorLexA
import Derived.Test.YtbeeeakcjeibgaaDoorVBase
import Derived.Test.YtbeeeakcjeibgaaDoorNum
import Derived.Test.YtbeeeakcjeibgaaDoorValid
import Derived.Test.YtbeeeakcjeibgaaDoorList
import Derived.Deep.LoopGhost
import Derived.WalkMore
import Derived.IntWalk
import Derived.Lib.IndexLaws
namespace Go.Proofs.YtbeeeakcjeibgaaDoor
open Go.RowKit

set_option maxHeartbeats 400000 in
theorem control_any (r : Nat) (w : World) : Calls Tryd.prog 33 #[.int .i32 (r : Int)] w fun e w' => e = .returned (.bool (decide (Ctrl r))) ∧ w = w' := by
  by_cases h1 : r < 32
  · have hd : decide (Ctrl r) = true := decide_eq_true (.inl h1)
    have hz : (r : Int) < 32 := by omega
    rw [hd]
    clear hd
    go_enter Tryd.func33, Tryd.ntmps33
    go_wp2
    go_ret
    exact ⟨rfl, rfl⟩
  · have hz : ¬ (r : Int) < 32 := by omega
    by_cases h2 : 127 ≤ r
    · have hz2 : (127 : Int) ≤ (r : Int) := by omega
      by_cases h3 : r ≤ 159
      · have hd : decide (Ctrl r) = true := decide_eq_true (.inr ⟨h2, h3⟩)
        have hz3 : (r : Int) ≤ 159 := by omega
        rw [hd]
        clear hd
        go_enter Tryd.func33, Tryd.ntmps33
        go_wp2
        go_ret
        exact ⟨rfl, rfl⟩
      · have hd : decide (Ctrl r) = false := decide_eq_false (by unfold Ctrl; omega)
        have hz3 : ¬ (r : Int) ≤ 159 := by omega
        rw [hd]
        clear hd
        go_enter Tryd.func33, Tryd.ntmps33
        go_wp2
        go_ret
        exact ⟨rfl, rfl⟩
    · have hd : decide (Ctrl r) = false := decide_eq_false (by unfold Ctrl; omega)
      have hz2 : ¬ (127 : Int) ≤ (r : Int) := by omega
      rw [hd]
      clear hd
      go_enter Tryd.func33, Tryd.ntmps33
      go_wp2
      go_ret
      exact ⟨rfl, rfl⟩

/- ### sign -/
def signsL : List UInt8 := [43, 45, 42, 47, 37, 40, 41, 44, 61, 60, 62, 38, 124, 33]
theorem signs_index : ∀ b : Fin 256, (isSign b.val = true ↔ 0 ≤ Lib.indexByte signsL (UInt8.ofNat b.val)) := by decide +kernel
theorem sign_index (b : UInt8) : isSign b.toNat = true ↔ 0 ≤ Lib.indexByte signsL b := by
  have := signs_index ⟨b.toNat, b.toNat_lt⟩
  rwa [UInt8.ofNat_toNat] at this
theorem prefix_two (b c d : UInt8) (r : List UInt8) : Lib.hasPrefix (b :: r) [c, d] = (decide (b = c) && decide (r.head? = some d)) := by
  cases r with
  | nil => simp [Lib.hasPrefix, List.isPrefixOf]
  | cons e r =>
    simp only [Lib.hasPrefix, List.isPrefixOf, List.head?_cons, Option.some.injEq, Bool.and_true]
    congr 1
    · by_cases h : c = b
      · rw [h, decide_eq_true rfl]; exact beq_self_eq_true b
      · rw [decide_eq_false (fun e => h e.symm)]; exact beq_eq_false_iff_ne.2 h
    · by_cases h : d = e
      · rw [h, decide_eq_true rfl]; exact beq_self_eq_true e
      · rw [decide_eq_false (fun e => h e.symm)]; exact beq_eq_false_iff_ne.2 h
/-- What sign answers, as it asks. -/
theorem sgnB_asks (b : UInt8) (r : List UInt8) : sgnB (b :: r) = if Lib.hasPrefix (b :: r) [60, 61] then 2 else if Lib.hasPrefix (b :: r) [62, 61] then 2 else if Lib.hasPrefix (b :: r) [33, 61] then 2 else if 0 ≤ Lib.indexByte signsL b then 1 else 0 := by
  rw [sgnB_cons, prefix_two, prefix_two, prefix_two]
  have t : ∀ c : UInt8, c = b ∨ c ≠ b := fun c => Classical.em _
  have two : isTwo b.toNat = true ↔ (b = 60 ∨ b = 62 ∨ b = 33) := by
    rw [isTwo_iff]
    constructor
    · rintro (h | h | h)
      · exact .inl (UInt8.toNat_inj.1 h)
      · exact .inr (.inl (UInt8.toNat_inj.1 h))
      · exact .inr (.inr (UInt8.toNat_inj.1 h))
    · rintro (rfl | rfl | rfl)
      · exact .inl rfl
      · exact .inr (.inl rfl)
      · exact .inr (.inr rfl)
  have sg : isTwo b.toNat = true → isSign b.toNat = true := fun h => by
    have := (isTwo_iff _).1 h
    exact (isSign_iff _).2 (by omega)
  by_cases h61 : r.head? = some 61
  · simp only [h61, decide_true, Bool.and_true, and_true]
    by_cases h2 : isTwo b.toNat = true
    · rw [if_pos (sg h2), if_pos h2]
      rcases two.1 h2 with rfl | rfl | rfl <;> rfl
    · have hn : ¬ b = 60 ∧ ¬ b = 62 ∧ ¬ b = 33 := ⟨fun e => h2 (two.2 (.inl e)), fun e => h2 (two.2 (.inr (.inl e))), fun e => h2 (two.2 (.inr (.inr e)))⟩
      rw [if_neg h2]
      simp only [hn.1, hn.2.1, hn.2.2, decide_false]
      by_cases hs : isSign b.toNat = true
      · rw [if_pos hs]; simp [(sign_index b).1 hs]
      · rw [if_neg hs]
        have : ¬ 0 ≤ Lib.indexByte signsL b := fun h => hs ((sign_index b).2 h)
        simp [this]
  · simp only [h61, decide_false, Bool.and_false, and_false]
    by_cases hs : isSign b.toNat = true
    · rw [if_pos hs]; simp [(sign_index b).1 hs]
    · rw [if_neg hs]
      have : ¬ 0 ≤ Lib.indexByte signsL b := fun h => hs ((sign_index b).2 h)
      simp [this]
set_option maxHeartbeats 1000000 in
theorem sign_any (t : ByteArray) (w : World) (hne : t.data.toList ≠ []) (hs : t.size ≤ 1099511627776) :
    Calls Tryd.prog 44 #[.string t] w fun e w' => e = .returned (.int .i64 (sgnB t.data.toList : Int)) ∧ w = w' := by
  have c1 := fun w => hasPrefix_any t ⟨#[60, 61]⟩ w
  have c2 := fun w => hasPrefix_any t ⟨#[62, 61]⟩ w
  have c3 := fun w => hasPrefix_any t ⟨#[33, 61]⟩ w
  have hlt : 0 < t.size := by rw [← size_list]; exact List.length_pos_iff.2 hne
  have hltz : (0 : Int) < (t.size : Int) := by omega
  obtain ⟨b, r, hl⟩ : ∃ b r, t.data.toList = b :: r := by
    cases h : t.data.toList with
    | nil => exact absurd h hne
    | cons b r => exact ⟨b, r, rfl⟩
  have hb : t[0] = b := by
    have : t.data.toList[0]? = some t[0] := by rw [List.getElem?_eq_getElem (by rw [size_list]; exact hlt)]; rfl
    rw [hl] at this
    injection this with this; exact this.symm
  have c4 := fun w => indexByte_any ⟨#[43, 45, 42, 47, 37, 40, 41, 44, 61, 60, 62, 38, 124, 33]⟩ (t[0].toNat : Int) w
  have hcs : ((t[0].toNat : Int)).toNat.toUInt8 = b := by rw [hb]; simp
  simp only [hcs] at c4
  rw [hl, sgnB_asks]
  simp only [hl] at c1 c2 c3
  have x4 : Lib.indexByte [43, 45, 42, 47, 37, 40, 41, 44, 61, 60, 62, 38, 124, 33] b = Lib.indexByte signsL b := rfl
  simp only [x4] at c4
  clear hcs hb hl x4 hne
  cases h1 : Lib.hasPrefix (b :: r) [60, 61] with
  | true =>
    simp only [h1] at c1
    clear c2 c3 c4 h1
    rw [if_pos rfl]
    go_enter Tryd.func44, Tryd.ntmps44
    go_wp2_with fail
    refine (c1 _).mono ?_
    rintro e w1 ⟨rfl, rfl⟩
    go_wp2
    go_ret
    exact ⟨rfl, rfl⟩
  | false =>
    simp only [h1] at c1
    clear h1
    rw [if_neg (by decide)]
    cases h2 : Lib.hasPrefix (b :: r) [62, 61] with
    | true =>
      simp only [h2] at c2
      clear c3 c4 h2
      rw [if_pos rfl]
      go_enter Tryd.func44, Tryd.ntmps44
      go_wp2_with fail
      refine (c1 _).mono ?_
      rintro e w1 ⟨rfl, rfl⟩
      go_wp2_with fail
      refine (c2 _).mono ?_
      rintro e w1 ⟨rfl, rfl⟩
      go_wp2
      go_ret
      exact ⟨rfl, rfl⟩
    | false =>
      simp only [h2] at c2
      clear h2
      rw [if_neg (by decide)]
      cases h3 : Lib.hasPrefix (b :: r) [33, 61] with
      | true =>
        simp only [h3] at c3
        clear c4 h3
        rw [if_pos rfl]
        go_enter Tryd.func44, Tryd.ntmps44
        go_wp2_with fail
        refine (c1 _).mono ?_
        rintro e w1 ⟨rfl, rfl⟩
        go_wp2_with fail
        refine (c2 _).mono ?_
        rintro e w1 ⟨rfl, rfl⟩
        go_wp2_with fail
        refine (c3 _).mono ?_
        rintro e w1 ⟨rfl, rfl⟩
        go_wp2
        go_ret
        exact ⟨rfl, rfl⟩
      | false =>
        simp only [h3] at c3
        clear h3
        rw [if_neg (by decide)]
        generalize Lib.indexByte signsL b = I at c4 ⊢
        by_cases h4 : 0 ≤ I
        · rw [if_pos h4]
          go_enter Tryd.func44, Tryd.ntmps44
          go_wp2_with fail
          refine (c1 _).mono ?_
          rintro e w1 ⟨rfl, rfl⟩
          go_wp2_with fail
          refine (c2 _).mono ?_
          rintro e w1 ⟨rfl, rfl⟩
          go_wp2_with fail
          refine (c3 _).mono ?_
          rintro e w1 ⟨rfl, rfl⟩
          go_wp2_with fail
          refine (c4 _).mono ?_
          rintro e w1 ⟨rfl, rfl⟩
          go_wp2
          go_ret
          exact ⟨rfl, rfl⟩
        · rw [if_neg h4]
          go_enter Tryd.func44, Tryd.ntmps44
          go_wp2_with fail
          refine (c1 _).mono ?_
          rintro e w1 ⟨rfl, rfl⟩
          go_wp2_with fail
          refine (c2 _).mono ?_
          rintro e w1 ⟨rfl, rfl⟩
          go_wp2_with fail
          refine (c3 _).mono ?_
          rintro e w1 ⟨rfl, rfl⟩
          go_wp2_with fail
          refine (c4 _).mono ?_
          rintro e w1 ⟨rfl, rfl⟩
          go_wp2
          go_ret
          exact ⟨rfl, rfl⟩
end Go.Proofs.YtbeeeakcjeibgaaDoor
