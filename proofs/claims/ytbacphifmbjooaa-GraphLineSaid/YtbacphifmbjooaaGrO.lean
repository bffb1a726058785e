/- Order and Stuck, the program's and the document's. -/
import Derived.Test.YtbacphifmbjooaaGrP
namespace Go.Proofs.Ytbacphifmbjooaa
open Go.RowKit

def ordI (n : Int) (L : List (List Int)) : List Int := if mayB n then ordZ n.toNat L else []
def ordIB (n : Int) (L : List (List Int)) : Bool := mayB n && ordB n.toNat L
def stuckI (n : Int) (L : List (List Int)) : List Int := if mayB n then stuckZ n.toNat L else []
/-- A list and a truth. -/
def TwoEnd (w : World) (Z : List Int) (b : Bool) (e : Ending) (w' : World) : Prop := ∃ A c, e = .returned (.tuple #[.slice A Z.length c, .bool b]) ∧ Z.length ≤ 17592186044416 ∧ Is w' A Z ∧ Below w.heap.size w w'
/-- A list. -/
def OneEnd (w : World) (Z : List Int) (e : Ending) (w' : World) : Prop := ∃ A c, e = .returned (.slice A Z.length c) ∧ Z.length ≤ c ∧ Z.length ≤ 17592186044416 ∧ Is w' A Z ∧ Below w.heap.size w w'
theorem mayB_nat {n : Int} (h : mayB n = true) : ∃ m : Nat, n = (m : Int) ∧ m ≤ 4096 := by
  unfold mayB at h
  have := of_decide_eq_true h
  exact ⟨n.toNat, by omega, by omega⟩
theorem told_len (n : Nat) (L : List (List Int)) : (toldT n L).1.length ≤ n := by
  have := (toldT_inv n L).1.len
  omega
theorem stuck_len (n : Nat) (L : List (List Int)) : (stuckZ n L).length ≤ n := by
  unfold stuckZ; rw [iz_len]; exact those_le _ _ _
theorem no_false {D : Nat → Bool} {k : Nat} : (D k == false) = !D k := by cases D k <;> rfl
set_option maxHeartbeats 2000000 in
theorem order_any (n : Int) (A : Option Addr) (L : List (List Int)) (cap : Nat) (w : World) (hL : LL w A L) :
    Calls Try.prog 11 #[.int .i64 n, .slice A L.length cap] w (TwoEnd w (ordI n L) (ordIB n L)) := by
  have cf := fits_any n w
  cases hm : mayB n with
  | false =>
    rw [hm] at cf
    rw [show ordI n L = [] by unfold ordI; rw [hm]; rfl, show ordIB n L = false by unfold ordIB; rw [hm]; rfl]
    clear hm hL
    go_enter Try.func11, Try.ntmps11
    go_wp2_with fail
    (with_reducible refine cf.mono ?_)
    rintro e w1 ⟨rfl, rfl⟩
    clear cf
    go_wp2_with fail
    exact bodyPost_ret (v := .tuple #[.slice none 0 0, .bool false]) (by simp [results, Try.results11, go_sem]) rfl ⟨none, 0, rfl, by simp, Els.nil _ _, Below.refl _ _⟩
  | true =>
    rw [hm] at cf
    obtain ⟨m, rfl, hm4⟩ := mayB_nat hm
    have ct := tell_any m A L cap w hm4 hL
    have hlen := told_len m L
    rw [show ordI (m : Int) L = ordZ m L by unfold ordI; rw [hm]; rfl, show ordIB (m : Int) L = ordB m L by unfold ordIB; rw [hm]; rfl]
    unfold ordZ ordB
    rw [← iz_len] at hlen ⊢
    unfold ToldEnd at ct
    generalize iz (toldT m L).1 = Z at *
    generalize (toldT m L).2 = E at *
    clear hm hL
    by_cases hlt : Z.length < m
    · have hz : (Z.length : Int) < (m : Int) := by omega
      rw [if_pos hlt, decide_eq_true hlt]
      change Calls _ _ _ _ (TwoEnd w [] false)
      clear hlt
      go_enter Try.func11, Try.ntmps11
      go_wp2_with fail
      (with_reducible refine cf.mono ?_)
      rintro e w1 ⟨rfl, rfl⟩
      clear cf
      go_wp2_with fail
      (with_reducible refine ct.mono ?_)
      rintro e w2 ⟨v, g, rfl, ho, -, hb⟩
      obtain ⟨A1, c1, rfl, -, h2, -⟩ := els_own (d := (0 : Int)) ho
      have HB := Lib.hid hb
      clear ct ho h2 hb
      go_wp2_with fail
      exact bodyPost_ret (v := .tuple #[.slice none 0 0, .bool false]) (by simp [results, Try.results11, go_sem]) rfl ⟨none, 0, rfl, by simp, Els.nil _ _, HB.out⟩
    · have hz : ¬ (Z.length : Int) < (m : Int) := by omega
      rw [if_neg hlt, decide_eq_false hlt]
      change Calls _ _ _ _ (TwoEnd w Z true)
      clear hlt
      go_enter Try.func11, Try.ntmps11
      go_wp2_with fail
      (with_reducible refine cf.mono ?_)
      rintro e w1 ⟨rfl, rfl⟩
      clear cf
      go_wp2_with fail
      (with_reducible refine ct.mono ?_)
      rintro e w2 ⟨v, g, rfl, ho, -, hb⟩
      obtain ⟨A1, c1, rfl, -, h2, -⟩ := els_own (d := (0 : Int)) ho
      have H2 := Lib.hid h2
      have HB := Lib.hid hb
      clear ct ho h2 hb
      go_wp2_with fail
      exact bodyPost_ret (v := .tuple #[.slice A1 Z.length c1, .bool true]) (by simp [results, Try.results11, go_sem]) rfl ⟨A1, c1, rfl, by omega, H2.out, HB.out⟩
set_option maxHeartbeats 2000000 in
theorem rorder_any (n : Int) (A : Option Addr) (L : List (List Int)) (cap : Nat) (w : World) (hL : LL w A L) :
    Calls Try.prog 12 #[.int .i64 n, .slice A L.length cap] w (TwoEnd w (ordI n L) (ordIB n L)) := by
  have cf := may_any n w
  cases hm : mayB n with
  | false =>
    rw [hm] at cf
    rw [show ordI n L = [] by unfold ordI; rw [hm]; rfl, show ordIB n L = false by unfold ordIB; rw [hm]; rfl]
    clear hm hL
    go_enter Try.func12, Try.ntmps12
    go_wp2_with fail
    (with_reducible refine cf.mono ?_)
    rintro e w1 ⟨rfl, rfl⟩
    clear cf
    go_wp2_with fail
    exact bodyPost_ret (v := .tuple #[.slice none 0 0, .bool false]) (by simp [results, Try.results12, go_sem]) rfl ⟨none, 0, rfl, by simp, Els.nil _ _, Below.refl _ _⟩
  | true =>
    rw [hm] at cf
    obtain ⟨m, rfl, hm4⟩ := mayB_nat hm
    have ct := rtold_any m A L cap w hm4 hL
    have hlen := told_len m L
    rw [show ordI (m : Int) L = ordZ m L by unfold ordI; rw [hm]; rfl, show ordIB (m : Int) L = ordB m L by unfold ordIB; rw [hm]; rfl]
    unfold ordZ ordB
    rw [← iz_len] at hlen ⊢
    unfold ToldEnd at ct
    generalize iz (toldT m L).1 = Z at *
    generalize (toldT m L).2 = E at *
    clear hm hL
    by_cases hlt : Z.length < m
    · have hz : (Z.length : Int) < (m : Int) := by omega
      rw [if_pos hlt, decide_eq_true hlt]
      change Calls _ _ _ _ (TwoEnd w [] false)
      clear hlt
      go_enter Try.func12, Try.ntmps12
      go_wp2_with fail
      (with_reducible refine cf.mono ?_)
      rintro e w1 ⟨rfl, rfl⟩
      clear cf
      go_wp2_with fail
      (with_reducible refine ct.mono ?_)
      rintro e w2 ⟨v, g, rfl, ho, -, hb⟩
      obtain ⟨A1, c1, rfl, -, h2, -⟩ := els_own (d := (0 : Int)) ho
      have HB := Lib.hid hb
      clear ct ho h2 hb
      go_wp2_with fail
      exact bodyPost_ret (v := .tuple #[.slice none 0 0, .bool false]) (by simp [results, Try.results12, go_sem]) rfl ⟨none, 0, rfl, by simp, Els.nil _ _, HB.out⟩
    · have hz : ¬ (Z.length : Int) < (m : Int) := by omega
      rw [if_neg hlt, decide_eq_false hlt]
      change Calls _ _ _ _ (TwoEnd w Z true)
      clear hlt
      go_enter Try.func12, Try.ntmps12
      go_wp2_with fail
      (with_reducible refine cf.mono ?_)
      rintro e w1 ⟨rfl, rfl⟩
      clear cf
      go_wp2_with fail
      (with_reducible refine ct.mono ?_)
      rintro e w2 ⟨v, g, rfl, ho, -, hb⟩
      obtain ⟨A1, c1, rfl, -, h2, -⟩ := els_own (d := (0 : Int)) ho
      have H2 := Lib.hid h2
      have HB := Lib.hid hb
      clear ct ho h2 hb
      go_wp2_with fail
      exact bodyPost_ret (v := .tuple #[.slice A1 Z.length c1, .bool true]) (by simp [results, Try.results12, go_sem]) rfl ⟨A1, c1, rfl, by omega, H2.out, HB.out⟩
set_option maxHeartbeats 2000000 in
theorem stuck_any (n : Int) (A : Option Addr) (L : List (List Int)) (cap : Nat) (w : World) (hL : LL w A L) :
    Calls Try.prog 14 #[.int .i64 n, .slice A L.length cap] w (OneEnd w (stuckI n L)) := by
  have cf := fits_any n w
  cases hm : mayB n with
  | false =>
    rw [hm] at cf
    rw [show stuckI n L = [] by unfold stuckI; rw [hm]; rfl]
    clear hm hL
    go_enter Try.func14, Try.ntmps14
    go_wp2_with fail
    (with_reducible refine cf.mono ?_)
    rintro e w1 ⟨rfl, rfl⟩
    clear cf
    go_wp2_with fail
    go_ret
    exact ⟨none, 0, rfl, by simp, by simp, Els.nil _ _, Below.refl _ _⟩
  | true =>
    rw [hm] at cf
    obtain ⟨m, rfl, hm4⟩ := mayB_nat hm
    have ct := tell_any m A L cap w hm4 hL
    have hlen := stuck_len m L
    rw [show stuckI (m : Int) L = stuckZ m L by unfold stuckI; rw [hm]; rfl]
    unfold stuckZ at hlen ⊢
    unfold ToldEnd at ct
    generalize iz (toldT m L).1 = Y at *
    generalize (toldT m L).2 = E at *
    clear hm hL
    go_enter Try.func14, Try.ntmps14
    go_wp2_with fail
    (with_reducible refine cf.mono ?_)
    rintro e w1 ⟨rfl, rfl⟩
    clear cf
    go_wp2_with fail
    (with_reducible refine ct.mono ?_)
    rintro e w2 ⟨v, g, rfl, -, hd, hb⟩
    have cs := those_any m g E false w2 hm4 hd
    have HB := Lib.hid hb
    clear ct hd hb
    go_wp2_with fail
    (with_reducible refine cs.mono ?_)
    rintro e w3 ⟨A3, c3, rfl, h1, h2, -, -, hb3⟩
    have HR : Hid (OneEnd w1 (iz (those m E false)) (.returned (.slice A3 (iz (those m E false)).length c3)) w3) := Lib.hid ⟨A3, c3, rfl, h1, by omega, h2, HB.out.trans (hb3.mono HB.out.size)⟩
    clear cs h1 h2 hb3 hlen
    generalize iz (those m E false) = Z at *
    go_wp2_with fail
    go_ret
    exact HR.out
set_option maxHeartbeats 4000000 in
theorem rstuck_any (n : Int) (A : Option Addr) (L : List (List Int)) (cap : Nat) (w : World) (hL : LL w A L) :
    Calls Try.prog 15 #[.int .i64 n, .slice A L.length cap] w (OneEnd w (stuckI n L)) := by
  obtain ⟨i0, hi, hz0, hz1, hz2⟩ := info_parts info_int
  have cf := may_any n w
  cases hm : mayB n with
  | false =>
    rw [hm] at cf
    rw [show stuckI n L = [] by unfold stuckI; rw [hm]; rfl]
    clear hm hL
    go_enter Try.func15, Try.ntmps15
    go_wp2_with fail
    (with_reducible refine cf.mono ?_)
    rintro e w1 ⟨rfl, rfl⟩
    clear cf
    go_wp2_with fail
    go_ret
    exact ⟨none, 0, rfl, by simp, by simp, Els.nil _ _, Below.refl _ _⟩
  | true =>
    rw [hm] at cf
    obtain ⟨m, rfl, hm4⟩ := mayB_nat hm
    have ct := rtold_any m A L cap w hm4 hL
    have hlen := stuck_len m L
    rw [show stuckI (m : Int) L = stuckZ m L by unfold stuckI; rw [hm]; rfl]
    unfold stuckZ at hlen ⊢
    unfold ToldEnd at ct
    generalize iz (toldT m L).1 = Y at *
    generalize (toldT m L).2 = E at *
    have HF : ∃ F, Hid (iz (those m E false) = F) := ⟨_, Lib.hid rfl⟩
    obtain ⟨F, HF⟩ := HF
    rw [HF.out] at hlen ⊢
    clear hm hL
    go_enter Try.func15, Try.ntmps15
    go_wp2_with fail
    (with_reducible refine cf.mono ?_)
    rintro e w1 ⟨rfl, rfl⟩
    clear cf
    go_wp2_with fail
    (with_reducible refine ct.mono ?_)
    rintro e w2 ⟨v, g, rfl, -, hd, hb⟩
    have HD := Lib.hid hd
    have HB := Lib.hid hb
    have hs2 := hb.size
    clear ct hd hb
    go_wp2_with fail
    go_loopg [7, 8] (m) (fun q s7 s8 wr => ∃ k : Nat, k + q = m ∧ s8 = .int .i64 (k : Int) ∧ Hid (OwnZ wr w2.heap.size s7 (iz (those k E false))) ∧ Hid (Below w2.heap.size w2 wr))
    case atStart => exact ⟨0, by omega, rfl, Lib.hid (World.ownsRow_nil _ _ _ _), Lib.hid (Below.refl _ _)⟩
    case round =>
      obtain ⟨k, hkm, rfl, HO, HW⟩ := hrel
      have HKM := Lib.hid hkm
      by_cases hk : k < m
      · have hkz : (k : Int) < (m : Int) := by omega
        have cd := (row_later HD.out HW.out).cell hk
        have hle : (iz (those k E false)).length ≤ k := by rw [iz_len]; exact those_le E false k
        have hsz := HW.out.size
        clear hkm
        cases hd : E k with
        | false =>
          have HS := Lib.hid (show those (k + 1) E false = those k E false ++ [k] by rw [those_succ, hd]; rfl)
          rw [hd] at cd
          clear hd
          go_wp2_with (at_builtin; refine wpList_append_own _ rfl _ _ 26 rfl w2.heap.size 3 i0 (.int .i64 0) 1 8 Try.underlying26 hi hz0 hz1 hz2 rfl (by decide) _ _ _ rfl (HO.out.alloc _) ⟨wr.heap.size, 0, none⟩ 1 1 [.int .i64 (k : Int)] rfl rfl (one_cell _ _ _) ?c2 ?c3 ?c4 ?c5 ?_)
          case c2 => first | rfl | (intro u hu; simp at hu; subst hu; rfl)
          case c3 => unfold maxLen; omega
          case c4 => omega
          case c5 => first | omega | (rw [alloc_size]; omega)
          intro v' w3 hown' hgrow' _
          have HB2 := Lib.hid ((HW.out.alloc hsz _).trans (below_own (HO.out.alloc _) hgrow' (by rw [alloc_size]; omega)))
          have HO2 : Hid (OwnZ w3 w2.heap.size v' (iz (those (k + 1) E false))) := Lib.hid (by
            rw [HS.out, ← iz_snoc]
            unfold OwnZ
            rw [List.length_append, List.length_singleton, ← zs_snoc]
            exact hown')
          clear hown' hgrow'
          go_wp2_with fail
          go_roundg (m - (k + 1))
          case measure => have := HKM.out; omega
          case rel => exact ⟨k + 1, by have := HKM.out; omega, by go_num, HO2, HB2⟩
        | true =>
          have HS := Lib.hid (show those (k + 1) E false = those k E false by rw [those_succ, hd]; simp)
          rw [hd] at cd
          clear hd
          go_wp2_with fail
          go_roundg (m - (k + 1))
          case measure => have := HKM.out; omega
          case rel => exact ⟨k + 1, by have := HKM.out; omega, by go_num, by rw [HS.out]; exact HO, HW⟩
      · have hkz : ¬ (k : Int) < (m : Int) := by omega
        obtain rfl : k = m := by omega
        obtain ⟨A3, c3, rfl, h1, h2, h3⟩ := els_own (d := (0 : Int)) HO.out
        have HR : Hid (OneEnd w1 F (.returned (.slice A3 (iz (those k E false)).length c3)) wr) := Lib.hid (by
          rw [HF.out] at h1 h2 ⊢
          exact ⟨A3, c3, rfl, h1, by omega, h2, HB.out.trans (HW.out.mono hs2)⟩)
        clear hkm HO h1 h2 h3
        generalize iz (those k E false) = Z at *
        go_wp2_with fail
        go_ret
        exact HR.out
end Go.Proofs.Ytbacphifmbjooaa
