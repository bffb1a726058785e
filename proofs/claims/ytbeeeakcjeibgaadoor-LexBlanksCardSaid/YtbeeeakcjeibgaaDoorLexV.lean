/- The contract of lex.other: a text, or a sign. -/
import Derived.Test.YtbeeeakcjeibgaaDoorLexU
namespace Go.Proofs.YtbeeeakcjeibgaaDoor
open Go.RowKit

set_option maxHeartbeats 1000000 in
set_option maxRecDepth 100000 in
theorem other_any (t : ByteArray) (x : Pc) (R : List Pc) (w : World) (hs : t.size ≤ 1000) (h : pcs t.data.toList = x :: R) (hT : Tabs w) :
    Calls Tryd.prog 23 #[.string t] w (Told x R (if x.1 = 34 then textT R else signF x R) w) := by
  have hne : t.data.toList ≠ [] := by intro e; rw [e, pcs_nil] at h; cases h
  have hlt : 0 < t.size := by rw [← size_list]; exact List.length_pos_iff.2 hne
  have hltz : (0 : Int) < (t.size : Int) := by omega
  have hb0 := below_alloc w (.cells #[.int .i64 0, .string ⟨#[]⟩, .int .i64 0, .int .i64 0] 32)
  have hF := four_new w (.int .i64 0) (.string ⟨#[]⟩) (.int .i64 0) (.int .i64 0) 32
  obtain ⟨w0, hw0⟩ : ∃ w0, w.alloc (.cells #[.int .i64 0, .string ⟨#[]⟩, .int .i64 0, .int .i64 0] 32) = w0 := ⟨_, rfl⟩
  rw [hw0] at hb0 hF
  have hT0 := hT.later hb0
  obtain ⟨b, r, hl, hbb⟩ := head_byte h
  have hb : t[0] = b := by
    have : t.data.toList[0]? = some t[0] := by rw [List.getElem?_eq_getElem (by rw [size_list]; exact hlt)]; rfl
    rw [hl] at this
    injection this with this; exact this.symm
  by_cases h34 : x.1 = 34
  · rw [if_pos h34]
    have cT := text_any t x R w0 hs h h34 hT0
    have t1 : ((t[0].toNat : Int) == 34) = true := by
      rcases hbb with ⟨_, e, _⟩ | ⟨_, e⟩
      · rw [hb, ← e, h34]; rfl
      · omega
    generalize textT R = O at cT ⊢
    unfold Told at cT ⊢
    cases O with
    | none =>
      unfold toldV at cT ⊢
      clear hl hbb hb h34 h hne hT hT0
      go_enter Tryd.func23, Tryd.ntmps23
      go_wp2_with fail
      refine cT.mono ?_
      rintro e w1 ⟨rfl, b1⟩
      obtain ⟨-, z0, z1, z2, z3, f0, f1, f2, f3⟩ := hF.later b1
      have hb3 := below_to hb0 b1
      clear cT hw0 hF b1 hb0
      go_wp2_with fail
      exact bodyPost_ret (v := .tuple #[T4 0 ⟨#[]⟩ 0 0, .int .i64 0]) (by simp [results, Tryd.results23, go_sem, z0, z1, z2, z3]) rfl ⟨rfl, below_four hb3 (Nat.le_refl _) _ _ _ _⟩
    | some f =>
      unfold toldV at cT ⊢
      dsimp only at cT ⊢
      generalize (flat (x :: R.take f.j)).length = n at cT ⊢
      generalize (⟨f.s.toArray⟩ : ByteArray) = S at cT ⊢
      generalize f.k = K at cT ⊢
      generalize f.n = N at cT ⊢
      clear hl hbb hb h34 h hne hT hT0
      go_enter Tryd.func23, Tryd.ntmps23
      go_wp2_with fail
      refine cT.mono ?_
      rintro e w1 ⟨rfl, b1⟩
      obtain ⟨-, z0, z1, z2, z3, f0, f1, f2, f3⟩ := hF.later b1
      have hb3 := below_to hb0 b1
      clear cT hw0 hF b1 hb0
      go_wp2_with fail
      exact bodyPost_ret (v := .tuple #[T4 K S N 0, .int .i64 n]) (by simp [results, Tryd.results23, go_sem, z0, z1, z2, z3]) rfl ⟨rfl, below_four hb3 (Nat.le_refl _) _ _ _ _⟩
  · rw [if_neg h34]
    have t1 : ((t[0].toNat : Int) == 34) = false := by
      refine beq_eq_false_iff_ne.2 ?_
      rcases hbb with ⟨_, e, _⟩ | ⟨e, _⟩
      · rw [hb, ← e]; omega
      · rw [hb]; omega
    have cS := fun w => sign_any t w hne (by omega)
    have hsg := sgn_bytes h
    cases hO : signF x R with
    | none =>
      rw [hO] at hsg
      dsimp only at hsg
      simp only [hsg] at cS
      unfold Told toldV
      clear hl hbb hb h34 h hne hT hT0 hO hsg
      go_enter Tryd.func23, Tryd.ntmps23
      go_wp2_with fail
      refine (cS _).mono ?_
      rintro e w1 ⟨rfl, rfl⟩
      obtain ⟨-, z0, z1, z2, z3, f0, f1, f2, f3⟩ := hF
      clear cS hw0
      go_wp2_with fail
      exact bodyPost_ret (v := .tuple #[T4 0 ⟨#[]⟩ 0 0, .int .i64 0]) (by simp [results, Tryd.results23, go_sem, z0, z1, z2, z3]) rfl ⟨rfl, below_four hb0 (Nat.le_refl _) _ _ _ _⟩
    | some f =>
      rw [hO] at hsg
      dsimp only at hsg
      obtain ⟨e1, e2, e3, e4, e5, e6, e7⟩ := hsg
      have hn : f.j + 1 ≤ t.size := by
        have h1 := flat_pcs t.data.toList
        rw [h] at h1
        have h2 := flat_take_drop (x :: R) (f.j + 1)
        have h3 := congrArg List.length h2
        rw [h1, List.length_append, size_list, List.take_succ_cons, e6] at h3
        omega
      obtain ⟨S, hS⟩ : ∃ S : ByteArray, (⟨f.s.toArray⟩ : ByteArray) = S := ⟨_, rfl⟩
      have hx : t.extract 0 (f.j + 1) = S := by
        rw [← hS]
        apply ByteArray.ext; apply Array.toList_inj.1
        rw [Lib.extract_data, List.drop_zero, Nat.sub_zero, e4]
      have cC := fun w => clone_any (t.extract 0 (f.j + 1)) w (by
        have := Lib.size_eq (t.extract 0 (f.j + 1)); rw [Lib.extract_data, List.drop_zero, Nat.sub_zero, List.length_take] at this; omega)
      rw [hx] at cC
      rw [e1] at cS
      unfold Told toldV
      dsimp only
      rw [e2, e3, e6, hS]
      have hnp : 0 < f.j + 1 := Nat.succ_pos _
      generalize f.j + 1 = n at *
      have HX := Lib.hid hx
      have hnz : (n : Int) ≤ (t.size : Int) := by omega
      have hn0 : ((n : Int) == 0) = false := beq_eq_false_iff_ne.2 (by omega)
      clear hl hbb hb h34 h hne hT hT0 hO e1 e2 e3 e4 e5 e6 e7 hS
      go_enter Tryd.func23, Tryd.ntmps23
      go_wp2_with fail
      refine (cS _).mono ?_
      rintro e w1 ⟨rfl, rfl⟩
      clear cS
      go_wp2_with fail
      refine (cC _).mono ?_
      rintro e w2 ⟨rfl, b2⟩
      obtain ⟨-, z0, z1, z2, z3, f0, f1, f2, f3⟩ := hF.later b2
      have hb3 := below_to hb0 b2
      clear cC hw0 hF b2 hb0
      go_wp2_with fail
      exact bodyPost_ret (v := .tuple #[T4 4 S 0 0, .int .i64 n]) (by simp [results, Tryd.results23, go_sem, z0, z1, z2, z3]) rfl ⟨rfl, below_four hb3 (Nat.le_refl _) _ _ _ _⟩
end Go.Proofs.YtbeeeakcjeibgaaDoor
