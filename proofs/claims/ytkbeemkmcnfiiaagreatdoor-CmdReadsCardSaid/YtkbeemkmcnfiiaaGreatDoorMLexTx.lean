/- The contract of the document's own text: the text that begins at the next piece. -/
import Derived.Test.YtkbeemkmcnfiiaaGreatDoorHH
import Derived.Test.YtkbeemkmcnfiiaaGreatDoorGE
namespace Go.Proofs.YtkbeemkmcnfiiaaGreatDoor
open Go.RowKit

/-- A block of the four cells of a piece. -/
theorem four_p (w : World) (a b c d : Value) (t : TypeId) : Four (w.alloc (.cells #[a, b, c, d] t)) w.heap.size a b c d := four_new w a b c d t
theorem app_bytes (a b : List UInt8) : (⟨a.toArray⟩ : ByteArray) ++ (⟨b.toArray⟩ : ByteArray) = ⟨(a ++ b).toArray⟩ := by apply ByteArray.ext; simp
theorem enc_len (r : Nat) : (Lib.encodeRune (r : Int)).length ≤ 4 := by have := enc_four r; omega
/-- How far a text is read: the pieces from j on are left, the runes Rs are told. -/
def TxAt (P : List Pc) (k : Nat) (Z : TextZ) (j : Nat) (Rs : List Nat) : Prop := Z = textF (P.drop j) Rs (j - (k + 1)) ∧ k + 1 ≤ j ∧ (∀ r ∈ Rs, Scalar ((r : Nat) : Int)) ∧ Rs.length ≤ j - (k + 1) ∧ (encs Rs).length ≤ 4 * (j - (k + 1))
section
variable {P : List Pc} {k : Nat} {Z : TextZ} {j : Nat} {Rs : List Nat} {x : Pc}
theorem TxAt.over (h : TxAt P k Z j Rs) (hj : ¬ j < P.length) : Z = none := by
  rw [h.1, List.drop_of_length_le (by omega), textF_nil]
theorem TxAt.stop (h : TxAt P k Z j Rs) (hx : P[j]? = some x) (hb : bad x ∨ Ctrl x.1) : Z = none := by
  rw [h.1, drop_at hx, textF_cons, if_pos hb]
theorem TxAt.quote (h : TxAt P k Z j Rs) (hx : P[j]? = some x) (hb : ¬ (bad x ∨ Ctrl x.1)) (hq : x.1 = 34) : Z = some (Rs, j - (k + 1)) := by
  rw [h.1, drop_at hx, textF_cons, if_neg hb, if_pos hq]
theorem TxAt.noEsc (h : TxAt P k Z j Rs) (hx : P[j]? = some x) (hb : ¬ (bad x ∨ Ctrl x.1)) (hq : x.1 = 92) (he : escF (P.drop (j + 1)) = none) : Z = none := by
  rw [h.1, drop_at hx, textF_cons, if_neg hb, if_neg (by omega), if_pos hq, he]
theorem TxAt.esc (h : TxAt P k Z j Rs) (hx : P[j]? = some x) (hb : ¬ (bad x ∨ Ctrl x.1)) (hq : x.1 = 92) {r m : Nat} (he : escF (P.drop (j + 1)) = some (r, m)) : TxAt P k Z (j + 1 + m) (Rs ++ [r]) ∧ j + 1 + m ≤ P.length := by
  obtain ⟨e1, e2, e3, e4, e5⟩ := escF_len he
  have hj := (List.getElem?_eq_some_iff.1 hx).1
  rw [List.length_drop] at e2
  obtain ⟨h1, h2, h3, h4, h5⟩ := h
  have h6 := enc_len r
  refine ⟨⟨?_, by omega, ?_, by rw [List.length_append, List.length_singleton]; omega, by rw [encs_snoc, List.length_append]; omega⟩, by omega⟩
  · rw [h1, drop_at hx, textF_cons, if_neg hb, if_neg (by omega), if_pos hq, he]
    dsimp only
    rw [List.drop_drop]
    congr 1
    omega
  · intro q hq
    rcases List.mem_append.1 hq with hq | hq
    · exact h3 q hq
    · simp only [List.mem_singleton] at hq
      subst hq; exact e4
theorem TxAt.plain (h : TxAt P k Z j Rs) (hx : P[j]? = some x) (hf : Fit x) (hb : ¬ (bad x ∨ Ctrl x.1)) (hq : x.1 ≠ 34) (hq2 : x.1 ≠ 92) : TxAt P k Z (j + 1) (Rs ++ [x.1]) := by
  obtain ⟨h1, h2, h3, h4, h5⟩ := h
  have h6 := enc_len x.1
  refine ⟨?_, by omega, ?_, by rw [List.length_append, List.length_singleton]; omega, by rw [encs_snoc, List.length_append]; omega⟩
  · rw [h1, drop_at hx, textF_cons, if_neg hb, if_neg hq, if_neg hq2]
    congr 1
    omega
  · intro q hq
    rcases List.mem_append.1 hq with hq | hq
    · exact h3 q hq
    · simp only [List.mem_singleton] at hq
      subst hq; exact hf.sc
end
theorem LTok.yes3 {w w' : World} {g : Nat} {t : ByteArray} {P : List Pc} {ao : Option Addr} {cap k n here : Nat} {o : Option Fd} {f : Fd} {S : ByteArray} (h : LA w w' g t P ao cap n) (hh : (flat (P.take k)).length = here) (ho : o = some f) (hn : n = k + 1 + f.j) (hS : S = ⟨f.s.toArray⟩) :
    LTok w g t P ao cap k o (.returned (.tuple #[T4 f.k S f.n (here : Int), .bool true])) w' := by
  subst hS; exact LTok.yes h hh ho hn
set_option maxHeartbeats 4000000 in
set_option maxRecDepth 100000 in
theorem ltext_any (g : Nat) (t : ByteArray) (P : List Pc) (ao : Option Addr) (cap k : Nat) (w : World) (h : LR w g t P ao cap k) (hP : pcs t.data.toList = P) (hl : t.size ≤ 400) (hk : k < P.length) :
    Calls Tryz.prog 69 #[.pointer (some ⟨g, 0, none⟩)] w (LTok w g t P ao cap k (textT (P.drop (k + 1)))) := by
  have hPc : Pcd P := hP ▸ Pcd.of _
  have hs : (flat P).length = t.size := by rw [← hP, flat_pcs, size_list]
  have hPl : P.length ≤ 400 := by have := flat_len hPc.fit; omega
  obtain ⟨Z, hZ⟩ : ∃ Z, textF (P.drop (k + 1)) [] 0 = Z := ⟨_, rfl⟩
  have hT0 : TxAt P k Z (k + 1) [] := ⟨by rw [Nat.sub_self]; exact hZ.symm, Nat.le_refl _, (fun r hr => by cases hr), Nat.zero_le _, Nat.zero_le _⟩
  rw [textT_eq, hZ]
  obtain ⟨O, hO⟩ : ∃ O, textO Z = O := ⟨_, rfl⟩
  rw [hO]
  obtain ⟨here, hh⟩ : ∃ n : Nat, (flat (P.take k)).length = n := ⟨_, rfl⟩
  have HH := Lib.hid hh
  have HO := Lib.hid hO
  have HT0 := Lib.hid hT0
  have HFT := Lib.hid hPc.fit
  have hgl := h.lt
  have hA0 := (LA.start h).alloc (.cells #[.int .i64 0, .string ⟨#[]⟩, .int .i64 0, .int .i64 0] 71)
  have hr0 := four_new w (.int .i64 0) (.string ⟨#[]⟩) (.int .i64 0) (.int .i64 0) 71
  have hs0 : w.heap.size < (w.alloc (.cells #[.int .i64 0, .string ⟨#[]⟩, .int .i64 0, .int .i64 0] 71)).heap.size := hr0.lt
  obtain ⟨w0, hw0⟩ : ∃ w0, w.alloc (.cells #[.int .i64 0, .string ⟨#[]⟩, .int .i64 0, .int .i64 0] 71) = w0 := ⟨_, rfl⟩
  rw [hw0] at hA0 hr0 hs0
  have cH := lhere_any g t P ao cap k w0 hA0.1 hs
  rw [hh] at cH
  have HA := Lib.hid hA0
  clear h hA0 hs hh hZ hO hT0 hP hPc
  go_enter Tryz.func69, Tryz.ntmps69
  go_wp2_with fail
  refine cH.mono ?_
  rintro e w1 ⟨rfl, q, rfl⟩
  clear hw0
  have hA1 := HA.out.later (below_still ⟨q, rfl⟩)
  have hr1 := hr0.later (below_still ⟨q, rfl⟩)
  have hs1 : w.heap.size < (w0.drewN q).heap.size := hr1.lt
  generalize hw1 : w0.drewN q = w1 at *
  clear hw1 hr0 hs0 HA cH
  go_upto_region 2 with fail
  have hb2 := below_alloc w1 (.cells #[.int .i64 2, .string ⟨#[]⟩, .int .i64 0, .int .i64 (here : Int)] 71)
  have hA2 := hA1.later hb2
  have hF2 : Two4 w _ w1.heap.size w.heap.size (.int .i64 2) (.string ⟨#[]⟩) (.int .i64 0) (.int .i64 (here : Int)) := ⟨Nat.le_of_lt hs1, Nat.le_refl _, by omega, four_new w1 (.int .i64 2) (.string ⟨#[]⟩) (.int .i64 0) (.int .i64 (here : Int)) 71, hr1.later hb2⟩
  generalize hw2 : w1.alloc (.cells #[.int .i64 2, .string ⟨#[]⟩, .int .i64 0, .int .i64 (here : Int)] 71) = w2 at *
  generalize hbb : w1.heap.size = b at *
  clear hw2 hb2 hA1 hr1 hs1 hbb
  obtain ⟨c0, c1, c2, f2⟩ := hA2.1.cells
  have HA := Lib.hid hA2
  have HF2 := Lib.hid hF2
  clear hA2 hF2
  go_wp2_with fail
  go_loopg [5] (P.length - (k + 1)) (fun n s5 wr => ∃ (j : Nat) (Rs : List Nat), j + n = P.length ∧ s5 = .int .i64 (Rs.length : Int) ∧ Hid (LA w wr g t P ao cap j) ∧ Hid (Two4 w wr b w.heap.size (.int .i64 2) (.string ⟨(encs Rs).toArray⟩) (.int .i64 0) (.int .i64 (here : Int))) ∧ Hid (TxAt P k Z j Rs))
  case atStart => exact ⟨k + 1, [], by omega, rfl, Lib.hid (HA.out.goes (by omega) (by omega)), Lib.hid (HF2.out.goes hgl _), HT0⟩
  case round =>
    obtain ⟨j, Rs, hjn, rfl, HA3, HF3, HT⟩ := hrel
    clear c0 c1 c2 f2 HA HF2 HT0
    obtain ⟨c0, c1, c2, f2⟩ := HA3.out.1.cells
    obtain ⟨lo, lo2, hne, ⟨tl, t0, t1, t2, t3, tf0, tf1, tf2, tf3⟩, ⟨rl, z0, z1, z2, z3, f0, f1, f2', f3⟩⟩ := HF3.out
    by_cases hjl : j < P.length
    · obtain ⟨x, hx⟩ : ∃ x, P[j]? = some x := ⟨_, List.getElem?_eq_getElem hjl⟩
      obtain ⟨bp, rfl, p0, p1, p2, p3⟩ := HA3.out.1.piece hx
      have hjz : (j : Int) < (P.length : Int) := by omega
      have hRl : Rs.length ≤ 400 := by have := HT.out.2.2.2.1; omega
      have HX := Lib.hid hx
      clear hx
      go_wp2_with fail
      go_quiet (fail)
      go_upto_region 5 with fail
      have hA2 := HA3.out.q nq
      have hF2 := HF3.out.q nq
      clear c0 c1 c2 f2 tl t0 t1 t2 t3 tf0 tf1 tf2 tf3 rl z0 z1 z2 z3 f0 f1 f2' f3 HA3 HF3 p0 p1 p2 p3
      generalize hwq : wr.drewN nq = w2 at *
      obtain ⟨c0, c1, c2, f2⟩ := hA2.1.cells
      obtain ⟨bp2, e2, p0, p1, p2, p3⟩ := hA2.1.piece HX.out
      injection e2 with e2
      injection e2 with e2
      subst e2
      have hgl2 : g < w2.heap.size := hA2.1.lt
      have hbl2 : bp < w2.heap.size := Lib.lt_of_cell p0
      go_region
      have hQ3 := (four_new w2 (.int .i64 ((flat (P.take j)).length : Int)) (.int .i64 (x.2.length : Int)) (.int .i32 (x.1 : Int)) (.bool (decide (bad x))) 91).later (below_still ⟨1, rfl⟩)
      have hb3 := (below_alloc w2 (.cells #[.int .i64 ((flat (P.take j)).length : Int), .int .i64 (x.2.length : Int), .int .i32 (x.1 : Int), .bool (decide (bad x))] 91)).drew
      have hA3 := hA2.later hb3
      have hF3 := hF2.later hb3
      rw [show ((w2.alloc (.cells #[.int .i64 ((flat (P.take j)).length : Int), .int .i64 (x.2.length : Int), .int .i32 (x.1 : Int), .bool (decide (bad x))] 91)).drewN 1) = (w2.alloc (.cells #[.int .i64 ((flat (P.take j)).length : Int), .int .i64 (x.2.length : Int), .int .i32 (x.1 : Int), .bool (decide (bad x))] 91)).drew from rfl] at hQ3
      have hbq : b ≠ w2.heap.size := by have := hF2.t.lt; omega
      have hgq : g ≠ w2.heap.size := by omega
      generalize hw3 : (w2.alloc (.cells #[.int .i64 ((flat (P.take j)).length : Int), .int .i64 (x.2.length : Int), .int .i32 (x.1 : Int), .bool (decide (bad x))] 91)).drew = w3 at *
      generalize hbqq : w2.heap.size = bq at *
      clear hw3 hb3 hA2 hF2 c0 c1 c2 f2 p0 p1 p2 p3 hgl2 hbl2 hbqq hwq
      obtain ⟨S, hS⟩ : ∃ S : ByteArray, (⟨(encs Rs).toArray⟩ : ByteArray) = S := ⟨_, rfl⟩
      rw [hS] at hF3
      have HA := Lib.hid hA3
      have HF := Lib.hid hF3
      obtain ⟨lo, lo2, hne, ⟨tl, t0, t1, t2, t3, tf0, tf1, tf2, tf3⟩, ⟨rl, z0, z1, z2, z3, f0, f1, f2', f3⟩⟩ := hF3
      obtain ⟨ql, q0, q1, q2, q3, qf0, qf1, qf2, qf3⟩ := hQ3
      obtain ⟨c0, c1, c2, f2⟩ := hA3.1.cells
      have hbg : b ≠ g := by omega
      obtain ⟨r, hr⟩ : ∃ r, x.1 = r := ⟨_, rfl⟩
      rw [hr] at q2
      have hSl : S.size ≤ 1600 := by
        have h1 := HT.out.2.2.2.2
        rw [← hS]
        show (encs Rs).toArray.size ≤ 1600
        rw [List.size_toArray]; omega
      have HS := Lib.hid hS
      have HR := Lib.hid hr
      clear hA3 q0 q1 qf0 qf1 qf2 qf3 hS hr
      by_cases hbc : bad x ∨ Ctrl x.1
      · have ho : O = none := by rw [← HO.out, HT.out.stop HX.out hbc]; rfl
        have HO2 := Lib.hid ho
        clear ho
        by_cases hb : bad x
        · rw [decide_eq_true hb] at q3
          clear hbc hb
          go_wp2_with fail
          exact bodyPost_ret (v := .tuple #[T4 2 S 0 here, .bool false]) (by simp [results, Tryz.results69, go_sem, z0, z1, z2, z3]) rfl (LTok.no (HA.out.goes (n := j + 1) (z := (j : Int) + 1) (by omega) (by omega) |>.fin lo2 _ _ _ _).2.1 _ _ _ HH.out HO2.out)
        · rw [decide_eq_false hb] at q3
          have hc := hbc.resolve_left hb
          rw [HR.out] at hc
          clear hbc hb
          rcases hc with hc | ⟨hc1, hc2⟩
          · have hz : (r : Int) < 32 := by omega
            go_wp2_with fail
            exact bodyPost_ret (v := .tuple #[T4 2 S 0 here, .bool false]) (by simp [results, Tryz.results69, go_sem, z0, z1, z2, z3]) rfl (LTok.no (HA.out.goes (n := j + 1) (z := (j : Int) + 1) (by omega) (by omega) |>.fin lo2 _ _ _ _).2.1 _ _ _ HH.out HO2.out)
          · have hz : ¬ (r : Int) < 32 := by omega
            have hz1 : (127 : Int) ≤ (r : Int) := by omega
            have hz2 : (r : Int) ≤ 159 := by omega
            go_wp2_with fail
            exact bodyPost_ret (v := .tuple #[T4 2 S 0 here, .bool false]) (by simp [results, Tryz.results69, go_sem, z0, z1, z2, z3]) rfl (LTok.no (HA.out.goes (n := j + 1) (z := (j : Int) + 1) (by omega) (by omega) |>.fin lo2 _ _ _ _).2.1 _ _ _ HH.out HO2.out)
      · have hb : ¬ bad x := fun h => hbc (.inl h)
        have hc : ¬ Ctrl r := fun h => hbc (.inr (by rw [HR.out]; exact h))
        rw [decide_eq_false hb] at q3
        have hz : ¬ (r : Int) < 32 := by unfold Ctrl at hc; omega
        have HBC := Lib.hid hbc
        have hmid : ∃ B : Bool, (decide ((127 : Int) ≤ (r : Int)) && decide ((r : Int) ≤ 159)) = B ∧ B = false := ⟨_, rfl, by
          unfold Ctrl at hc
          by_cases h1 : 127 ≤ r
          · rw [decide_eq_false (show ¬ (r : Int) ≤ 159 by omega), Bool.and_false]
          · rw [decide_eq_false (show ¬ (127 : Int) ≤ (r : Int) by omega), Bool.false_and]⟩
        clear hmid hbc hb
        have hcs : ¬ 127 ≤ r ∨ (127 ≤ r ∧ ¬ r ≤ 159) := by unfold Ctrl at hc; omega
        clear hc
        by_cases h34 : r = 34
        · have hzz := HT.out.quote HX.out HBC.out (HR.out.trans h34)
          have t1q : ((r : Int) == 34) = true := by rw [h34]; rfl
          have hz1 : ¬ (127 : Int) ≤ (r : Int) := by omega
          have HZ := Lib.hid hzz
          clear hzz hcs h34
          go_wp2_with fail
          refine bodyPost_ret (v := .tuple #[T4 2 S 0 here, .bool (decide ((Rs.length : Int) ≤ 100))]) (by simp [results, Tryz.results69, go_sem, z0, z1, z2, z3]) rfl ?_
          by_cases h100 : Rs.length ≤ 100
          · rw [decide_eq_true (by omega)]
            exact LTok.yes3 (f := ⟨2, encs Rs, 0, (j - (k + 1)) + 1⟩) ((HA.out.goes (n := j + 1) (z := (j : Int) + 1) (by omega) (by omega)).fin lo2 _ _ _ _) HH.out (by rw [← HO.out, HZ.out]; unfold textO; dsimp only; rw [if_pos h100]) (by have := HT.out.2.1; dsimp only; omega) HS.out.symm
          · rw [decide_eq_false (by omega)]
            exact LTok.no ((HA.out.goes (n := j + 1) (z := (j : Int) + 1) (by omega) (by omega)).fin lo2 _ _ _ _).2.1 _ _ _ HH.out (by rw [← HO.out, HZ.out]; unfold textO; dsimp only; rw [if_neg h100])
        · have t1q : ((r : Int) == 34) = false := beq_eq_false_iff_ne.2 (by omega)
          have hA4 := HA.out.goes (n := j + 1) (z := (j : Int) + 1) (by omega) (by omega)
          have hF4 := HF.out.goes hgl (.int .i64 ((j : Int) + 1))
          by_cases h92 : r = 92
          · have t2q : ((r : Int) == 92) = true := by rw [h92]; rfl
            have hz1 : ¬ (127 : Int) ≤ (r : Int) := by omega
            have cE := lesc_any g t P (some ⟨bp, 0, none⟩) cap (j + 1) _ hA4.1 (by omega)
            cases he : escF (P.drop (j + 1)) with
            | none =>
              rw [he] at cE
              have ho : O = none := by rw [← HO.out, HT.out.noEsc HX.out HBC.out (HR.out.trans h92) he]; rfl
              have HO2 := Lib.hid ho
              have HA4 := Lib.hid hA4
              have HF4 := Lib.hid hF4
              clear ho he hcs h34 h92 hA4 hF4
              go_wp2_with fail
              refine cE.mono ?_
              rintro e w5 ⟨hw5, v5, rfl⟩
              have hA5 := HA4.out.2.1.trans hw5
              obtain ⟨-, -, -, ⟨yl, y0, y1, y2, y3, yf0, yf1, yf2, yf3⟩, ⟨xl, x0, x1, x2, x3, xf0, xf1, xf2, xf3⟩⟩ := HF4.out.away hw5 hgl
              clear hw5 cE
              go_wp2_with fail
              exact bodyPost_ret (v := .tuple #[T4 2 S 0 here, .bool false]) (by simp [results, Tryz.results69, go_sem, x0, x1, x2, x3]) rfl (LTok.no ((((hA5.put lo2 0 _).put lo2 1 _).put lo2 2 _).put lo2 3 _) _ _ _ HH.out HO2.out)
            | some q =>
              obtain ⟨v, m⟩ := q
              rw [he] at cE
              obtain ⟨e1, e2, e3, e4, e5⟩ := escF_len he
              obtain ⟨hT2, hjm⟩ := HT.out.esc HX.out HBC.out (HR.out.trans h92) he
              have HT2 := Lib.hid hT2
              have HA4 := Lib.hid hA4
              have HF4 := Lib.hid hF4
              have cB := fun w => refBytes_any (v : Int) w e4
              obtain ⟨E, hE⟩ : ∃ E : ByteArray, (⟨(Lib.encodeRune (v : Int)).toArray⟩ : ByteArray) = E := ⟨_, rfl⟩
              rw [hE] at cB
              obtain ⟨M, hM⟩ : ∃ M, S ++ E = M := ⟨_, rfl⟩
              have hEs : E.size ≤ 4 := by
                rw [← hE]
                show (Lib.encodeRune (v : Int)).toArray.size ≤ 4
                rw [List.size_toArray]; exact enc_len v
              have hMe : M = ⟨(encs (Rs ++ [v])).toArray⟩ := by rw [← hM, ← HS.out, ← hE, encs_snoc]; exact app_bytes _ _
              have HM := Lib.hid hMe
              have hov : ¬ 9223372036854775807 < S.size + E.size := by omega
              clear he hcs h34 h92 hA4 hF4 hT2 hE hMe e3 e4 hEs
              go_wp2_with fail
              refine cE.mono ?_
              rintro e w5 ⟨hw5, rfl, hL5⟩
              have hA5 := HA4.out.step hL5 hw5
              have hF5 := HF4.out.away hw5 hgl
              have HA5 := Lib.hid hA5
              have HF5 := Lib.hid hF5
              obtain ⟨d0, d1, d2, g2⟩ := hA5.1.cells
              obtain ⟨-, -, -, ⟨yl, y0, y1, y2, y3, yf0, yf1, yf2, yf3⟩, ⟨xl, x0, x1, x2, x3, xf0, xf1, xf2, xf3⟩⟩ := hF5
              clear hw5 cE hL5 hA5 c0 c1 c2 f2 tl t0 t1 t2 t3 tf0 tf1 tf2 tf3 rl z0 z1 z2 z3 f0 f1 f2' f3 ql q2 q3
              go_wp2_with fail
              go_region_with (go_at_call 84; refine (cB _).mono ?_; rintro e wy ⟨rfl, hby⟩; obtain ⟨-, -, -, ⟨ul, u0, u1, u2, u3, uf0, uf1, uf2, uf3⟩, -⟩ := (HF5.out.q 1).later hby)
              all_goals
                go_wp2_with fail
                go_roundg (P.length - (j + 1 + m))
                case measure => omega
                case rel => exact ⟨j + 1 + m, Rs ++ [v], by omega, by rw [List.length_append, List.length_singleton]; go_num, Lib.hid (((HA5.out.q 1).later hby).put lo 1 _), Lib.hid (HM.out ▸ ((HF5.out.q 1).later hby).str (.string M)), HT2⟩
          · have t2q : ((r : Int) == 92) = false := beq_eq_false_iff_ne.2 (by omega)
            have hT2 := HT.out.plain HX.out (HFT.out x (List.mem_of_getElem? HX.out)) HBC.out (by rw [HR.out]; exact h34) (by rw [HR.out]; exact h92)
            rw [HR.out] at hT2
            have hsc : Scalar (r : Int) := by rw [← HR.out]; exact (HFT.out x (List.mem_of_getElem? HX.out)).sc
            have HT2 := Lib.hid hT2
            have HA4 := Lib.hid hA4
            have HF4 := Lib.hid hF4
            have cB := fun w => refBytes_any (r : Int) w hsc
            obtain ⟨E, hE⟩ : ∃ E : ByteArray, (⟨(Lib.encodeRune (r : Int)).toArray⟩ : ByteArray) = E := ⟨_, rfl⟩
            rw [hE] at cB
            obtain ⟨M, hM⟩ : ∃ M, S ++ E = M := ⟨_, rfl⟩
            have hEs : E.size ≤ 4 := by
              rw [← hE]
              show (Lib.encodeRune (r : Int)).toArray.size ≤ 4
              rw [List.size_toArray]; exact enc_len r
            have hMe : M = ⟨(encs (Rs ++ [r])).toArray⟩ := by rw [← hM, ← HS.out, ← hE, encs_snoc]; exact app_bytes _ _
            have HM := Lib.hid hMe
            have hov : ¬ 9223372036854775807 < S.size + E.size := by omega
            clear h34 h92 hA4 hF4 hT2 hE hMe hsc hEs
            rcases hcs with hcs | ⟨hcs1, hcs2⟩
            all_goals
              go_wp2_with fail
              go_region_with (go_at_call 84; refine (cB _).mono ?_; rintro e wy ⟨rfl, hby⟩; obtain ⟨-, -, -, ⟨ul, u0, u1, u2, u3, uf0, uf1, uf2, uf3⟩, -⟩ := (HF4.out.q 1).later hby)
              all_goals
                go_wp2_with fail
                go_roundg (P.length - (j + 1))
                case measure => omega
                case rel => exact ⟨j + 1, Rs ++ [r], by omega, by rw [List.length_append, List.length_singleton]; go_num, Lib.hid (((HA4.out.q 1).later hby).put lo 1 _), Lib.hid (HM.out ▸ ((HF4.out.q 1).later hby).str (.string M)), HT2⟩
    · have hjz : ¬ (j : Int) < (P.length : Int) := by omega
      have hd0 : decide (j < P.length) = false := decide_eq_false hjl
      have ho : O = none := by rw [← HO.out, HT.out.over hjl]; rfl
      have HO2 := Lib.hid ho
      have HA4 := Lib.hid HA3.out
      clear ho HA3 HF3
      go_wp2_with fail
      go_quiet (fail)
      go_wp2_with fail
      exact bodyPost_ret (v := .tuple #[T4 2 ⟨(encs Rs).toArray⟩ 0 here, .bool false]) (by simp [results, Tryz.results69, go_sem, z0, z1, z2, z3]) rfl (LTok.no ((HA4.out.q _).fin lo2 _ _ _ _).2.1 _ _ _ HH.out HO2.out)
end Go.Proofs.YtkbeemkmcnfiiaaGreatDoor
