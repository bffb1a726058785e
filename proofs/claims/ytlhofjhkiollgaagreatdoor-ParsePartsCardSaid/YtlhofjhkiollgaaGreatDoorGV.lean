/- Several texts in one: ParCy, ParWp. -/
import Derived.Test.YtlhofjhkiollgaaGreatDoorGU
import Derived.Test.YtlhofjhkiollgaaGreatDoorGJ
import Derived.Laws.BitsLemmas
namespace Go.Proofs.YtlhofjhkiollgaaGreatDoor
/- Plain mathematics: tokens that say an expression up to the end say it wherever they stand, up to what no operation goes on with. No program stands in this text. -/
section

section
variable (g : Tk → Tk) (E : Tk) (Z : List Tk)
/-- What comes of tokens up to the end comes of them ahead of Z, too. -/
def Cr {α : Type} (x y : Pr (α × List Tk)) : Prop := ∀ a q, x = some (.ok (a, q)) → ∃ Q, q = Q ++ [E] ∧ y = some (.ok (a, Q.map g ++ Z))
variable {g : Tk → Tk} {E : Tk} {Z : List Tk}
theorem bnd_inv {α β : Type} {x : Pr α} {f : α → Pr β} {r : β} (h : bnd x f = some (.ok r)) : ∃ a, x = some (.ok a) ∧ f a = some (.ok r) := by
  cases x with
  | none => cases h
  | some v =>
    cases v with
    | error p => cases h
    | ok a => exact ⟨a, rfl, h⟩
theorem Cr.bnd {α β : Type} {x y : Pr (α × List Tk)} {k m : α × List Tk → Pr (β × List Tk)} (h : Cr g E Z x y) (hk : ∀ a Q, Cr g E Z (k (a, Q ++ [E])) (m (a, Q.map g ++ Z))) : Cr g E Z (Go.Proofs.YtlhofjhkiollgaaGreatDoor.bnd x k) (Go.Proofs.YtlhofjhkiollgaaGreatDoor.bnd y m) := by
  intro a q hr
  obtain ⟨⟨b, z⟩, h1, h2⟩ := bnd_inv hr
  obtain ⟨Q, rfl, h3⟩ := h b z h1
  rw [bnd_ok h3]
  exact hk b Q a q h2
theorem Cr.ok {α : Type} (a : α) (Q : List Tk) : Cr g E Z (some (.ok (a, Q ++ [E]))) (some (.ok (a, Q.map g ++ Z))) := by
  intro b q h
  simp only [Option.some.injEq, Except.ok.injEq, Prod.mk.injEq] at h
  obtain ⟨rfl, rfl⟩ := h
  exact ⟨Q, rfl, rfl⟩
theorem Cr.err {α : Type} {p : Nat} {y : Pr (α × List Tk)} : Cr g E Z (some (.error p)) y := by
  intro a q h; cases h
theorem Cr.none {α : Type} {y : Pr (α × List Tk)} : Cr g E Z (Option.none) y := by
  intro a q h; cases h
theorem isS_end (hE : E.k = 0) (q : List Tk) (s : List UInt8) : isS (E :: q) s = false := isS_no (by omega) s
/-- A sign that must come. -/
theorem must_inv (hE : E.k = 0) {T q : List Tk} {s : List UInt8} (h : mustS (T ++ [E]) s = some (.ok q)) : ∃ t T', T = t :: T' ∧ q = T' ++ [E] ∧ isS [t] s = true := by
  unfold mustS at h
  split at h
  · rename_i c
    injection h with h
    injection h with h
    cases T with
    | nil => rw [List.nil_append, isS_end hE] at c; cases c
    | cons t T' => exact ⟨t, T', rfl, h.symm, c⟩
  · injection h with h; cases h
theorem isS_g (hg : ∀ t, (g t).k = t.k ∧ (g t).s = t.s ∧ (g t).n = t.n) (t : Tk) (q z : List Tk) (s : List UInt8) : isS (g t :: q) s = isS (t :: z) s := by
  unfold isS; dsimp only; rw [(hg t).1, (hg t).2.1]
theorem opH_g (hg : ∀ t, (g t).k = t.k ∧ (g t).s = t.s ∧ (g t).n = t.n) (t : Tk) (q z : List Tk) (l : Nat) : opH l (g t :: q) = opH l (t :: z) := by
  unfold opH; dsimp only; rw [(hg t).1, (hg t).2.1]
theorem must_g (hg : ∀ t, (g t).k = t.k ∧ (g t).s = t.s ∧ (g t).n = t.n) {t : Tk} {T' : List Tk} {s : List UInt8} (h : isS [t] s = true) : mustS ((t :: T').map g ++ Z) s = some (.ok (T'.map g ++ Z)) := by
  unfold mustS
  rw [List.map_cons, List.cons_append, isS_g hg t _ [] s, h]
  rfl
theorem has_cy (hg : ∀ t, (g t).k = t.k ∧ (g t).s = t.s ∧ (g t).n = t.n) (hE : E.k = 0) (T : List Tk) : Cr g E Z (pHas (T ++ [E])) (pHas (T.map g ++ Z)) := by
  intro a q h
  unfold pHas at h
  obtain ⟨r, h1, h2⟩ := bnd_inv h
  obtain ⟨t, T', rfl, rfl, ht⟩ := must_inv hE h1
  unfold pHas
  rw [bnd_ok (must_g hg ht)]
  cases T' with
  | nil =>
    simp only [List.nil_append] at h2
    rw [if_neg (by rw [hE]; rintro ⟨c, -⟩; cases c)] at h2
    injection h2 with h2; cases h2
  | cons u T2 =>
    simp only [List.cons_append] at h2
    split at h2
    · rename_i c
      obtain ⟨z, h3, h4⟩ := bnd_inv h2
      obtain ⟨v, T3, rfl, rfl, hv⟩ := must_inv hE h3
      simp only [List.map_cons, List.cons_append, (hg u).1, (hg u).2.1]
      rw [if_pos c]
      have := must_g (Z := Z) hg (T' := T3) hv
      rw [List.map_cons, List.cons_append] at this
      rw [bnd_ok this]
      simp only [Option.some.injEq, Except.ok.injEq, Prod.mk.injEq] at h4
      obtain ⟨rfl, rfl⟩ := h4
      exact ⟨T3, rfl, rfl⟩
    · injection h2 with h2; cases h2
theorem cy_all (hg : ∀ t, (g t).k = t.k ∧ (g t).s = t.s ∧ (g t).n = t.n) (hE : E.k = 0) (hZ : ∀ l, opH l Z = Option.none) : ∀ f,
    (∀ l T, Cr g E Z (pE f l (T ++ [E])) (pE f l (T.map g ++ Z))) ∧ (∀ l a T, Cr g E Z (pL f l a (T ++ [E])) (pL f l a (T.map g ++ Z))) ∧
    (∀ T, Cr g E Z (pU f (T ++ [E])) (pU f (T.map g ++ Z))) ∧ (∀ T, Cr g E Z (pA f (T ++ [E])) (pA f (T.map g ++ Z))) ∧
    (∀ s T, Cr g E Z (pW f s (T ++ [E])) (pW f s (T.map g ++ Z))) ∧ (∀ op n T, Cr g E Z (pX f op n (T ++ [E])) (pX f op n (T.map g ++ Z))) ∧
    (∀ n b T, Cr g E Z (pK f n b (T ++ [E])) (pK f n b (T.map g ++ Z)))
  | 0 => by
    refine ⟨fun l T => ?_, fun l a T => ?_, fun T => ?_, fun T => ?_, fun s T => ?_, fun op n T => ?_, fun n b T => ?_⟩
    · rw [pE]; exact Cr.none
    · rw [pL]; exact Cr.none
    · rw [pU]; exact Cr.none
    · rw [pA]; exact Cr.none
    · rw [pW]; exact Cr.none
    · rw [pX]; exact Cr.none
    · rw [pK]; exact Cr.none
  | f + 1 => by
    obtain ⟨hEE, hL, hU, hA, hW, hX, hK⟩ := cy_all hg hE hZ f
    refine ⟨fun l T => ?_, fun l a T => ?_, fun T => ?_, fun T => ?_, fun s T => ?_, fun op n T => ?_, fun n b T => ?_⟩
    · rw [pE, pE]
      split
      · exact (hEE _ _).bnd fun a Q => hL _ _ _
      · exact hU _
    · cases T with
      | nil =>
        rw [pL, pL, List.nil_append, show opH l [E] = Option.none by unfold opH; dsimp only; rw [if_neg (by omega)]]
        rw [List.map_nil, List.nil_append, hZ l]
        exact Cr.ok a []
      | cons t T =>
        rw [pL, pL, List.map_cons, List.cons_append, List.cons_append, opH_g hg t _ (T ++ [E]) l]
        cases opH l (t :: (T ++ [E])) with
        | none =>
          have := Cr.ok (g := g) (E := E) (Z := Z) a (t :: T)
          simpa using this
        | some o =>
          dsimp only [List.tail_cons]
          refine (hEE _ T).bnd fun x Q => ?_
          dsimp only
          split
          · exact Cr.ok _ _
          · exact hL _ _ _
    · cases T with
      | nil =>
        rw [pU, List.nil_append, isS_end hE, isS_end hE]
        simp only [Bool.false_eq_true, if_false]
        intro a q h
        cases f with
        | zero => rw [pA] at h; cases h
        | succ f =>
          rw [pA, if_neg (by omega), if_neg (by omega), if_neg (by omega), isS_end hE] at h
          simp only [Bool.false_eq_true, if_false] at h
          injection h with h; cases h
      | cons t T =>
        rw [pU, pU, List.map_cons, List.cons_append, List.cons_append, isS_g hg t _ (T ++ [E]), isS_g hg t _ (T ++ [E])]
        dsimp only [List.tail_cons]
        split
        · exact (hU T).bnd fun x Q => Cr.ok _ _
        · split
          · exact (hU T).bnd fun x Q => Cr.ok _ _
          · have := hA (t :: T)
            simpa using this
    · cases T with
      | nil =>
        intro a q h
        rw [List.nil_append, pA, if_neg (by omega), if_neg (by omega), if_neg (by omega), isS_end hE] at h
        simp only [Bool.false_eq_true, if_false] at h
        injection h with h; cases h
      | cons t T =>
        rw [List.map_cons, List.cons_append, List.cons_append, pA, pA, (hg t).1, (hg t).2.1, (hg t).2.2, isS_g hg t _ (T ++ [E])]
        split
        · exact Cr.ok _ _
        · split
          · exact Cr.ok _ _
          · split
            · exact hW _ _
            · split
              · refine (hEE 0 T).bnd fun x Q => ?_
                dsimp only
                intro a q h
                obtain ⟨z, h1, h2⟩ := bnd_inv h
                obtain ⟨u, Q', rfl, rfl, hu⟩ := must_inv hE h1
                rw [bnd_ok (must_g hg hu)]
                simp only [Option.some.injEq, Except.ok.injEq, Prod.mk.injEq] at h2
                obtain ⟨rfl, rfl⟩ := h2
                exact ⟨Q', rfl, rfl⟩
              · exact Cr.err
    · rw [pW, pW]
      split
      · exact Cr.ok _ _
      split
      · exact Cr.ok _ _
      split
      · exact hX _ _ _
      split
      · exact hX _ _ _
      split
      · exact hX _ _ _
      split
      · exact hX _ _ _
      split
      · exact hX _ _ _
      split
      · exact has_cy hg hE T
      · exact Cr.ok _ _
    · rw [pX, pX]
      intro a q h
      obtain ⟨z, h1, h2⟩ := bnd_inv h
      obtain ⟨u, Q, rfl, rfl, hu⟩ := must_inv hE h1
      rw [bnd_ok (must_g hg hu)]
      obtain ⟨⟨es, z⟩, h3, h4⟩ := bnd_inv h2
      obtain ⟨Q2, rfl, h5⟩ := hK _ _ _ es z h3
      rw [bnd_ok h5]
      dsimp only at h4 ⊢
      obtain ⟨z2, h6, h7⟩ := bnd_inv h4
      obtain ⟨v, Q3, rfl, rfl, hv⟩ := must_inv hE h6
      rw [bnd_ok (must_g hg hv)]
      simp only [Option.some.injEq, Except.ok.injEq, Prod.mk.injEq] at h7
      obtain ⟨rfl, rfl⟩ := h7
      exact ⟨Q3, rfl, rfl⟩
    · cases n with
      | zero => rw [pK, pK]; exact Cr.ok _ _
      | succ n =>
        rw [pK, pK]
        cases b with
        | true =>
          simp only [if_true]
          rw [bnd_ok rfl, bnd_ok rfl]
          refine (hEE 0 T).bnd fun x Q => (hK _ _ _).bnd fun y Q2 => Cr.ok _ _
        | false =>
          simp only [Bool.false_eq_true, if_false]
          intro a q h
          obtain ⟨z, h1, h2⟩ := bnd_inv h
          obtain ⟨u, T', rfl, rfl, hu⟩ := must_inv hE h1
          rw [bnd_ok (must_g hg hu)]
          exact ((hEE 0 T').bnd fun x Q => (hK _ _ _).bnd fun y Q2 => Cr.ok _ _) a q h2
/-- Said as the parser says it. -/
theorem PE.carry (hg : ∀ t, (g t).k = t.k ∧ (g t).s = t.s ∧ (g t).n = t.n) (hE : E.k = 0) (hZ : ∀ l, opH l Z = Option.none) {l : Nat} {T q : List Tk} {a : Ex} (h : PE l (T ++ [E]) (.ok (a, q))) : ∃ Q, q = Q ++ [E] ∧ PE l (T.map g ++ Z) (.ok (a, Q.map g ++ Z)) := by
  obtain ⟨f, hf⟩ := h
  obtain ⟨Q, h1, h2⟩ := (cy_all hg hE hZ f).1 l T a q hf
  exact ⟨Q, h1, f, h2⟩
end
end
/- Plain mathematics: blanks and brackets around what a text says; two of them with a sign between. No program stands in this text. -/
section

/-- What a text says, by its tokens, up to the end. -/
theorem says_ok {s : ByteArray} {e : Ex} (h : Says s.data.toList (.ok e)) : s.data.toList.length ≤ 400 ∧ chkB e = true ∧ ∃ ts, lexL s.data.toList = .ok ts ∧ PE 0 (ts ++ [endT s.data.toList.length]) (.ok (e, [endT s.data.toList.length])) := by
  refine ⟨?_, says_chk h, ?_⟩
  · rcases h with ⟨_, h⟩ | ⟨h, _⟩
    · cases h
    · exact h
  · rcases h with ⟨_, h⟩ | ⟨_, ⟨p, _, h⟩ | ⟨ts, r, h1, h2, h⟩⟩
    · cases h
    · cases h
    · refine ⟨ts, h1, ?_⟩
      obtain ⟨r2, h3, hsh⟩ := PE.all (ts ++ [endT s.data.toList.length]) 0 (by omega)
      obtain rfl := h2.one h3
      unfold endR at h
      cases r with
      | error p => cases h
      | ok x =>
        obtain ⟨a, q⟩ := x
        obtain ⟨-, p, hp⟩ := hsh a q rfl
        unfold wholeR at h
        cases q with
        | nil => cases h
        | cons t q =>
          dsimp only at h
          by_cases h0 : t.k = 0
          · rw [if_pos h0] at h
            dsimp only at h
            split at h
            · injection h with h; subst h
              obtain rfl | ⟨c, q', rfl⟩ : q = [] ∨ ∃ c q', q = q' ++ [c] := by
                rcases List.eq_nil_or_concat q with h | ⟨q', c, h⟩
                · exact .inl h
                · exact .inr ⟨c, q', by rw [h, List.concat_eq_append]⟩
              · have e1 : ts ++ [endT s.data.toList.length] = p ++ [t] := hp
                have e2 := List.append_inj' e1 rfl
                have e3 : t = endT s.data.toList.length := by have := e2.2; simp at this; exact this.symm
                rw [e3] at h2
                exact h2
              · exfalso
                have e1 : ts ++ [endT s.data.toList.length] = (p ++ t :: q') ++ [c] := by rw [hp]; simp
                have e2 := List.append_inj' e1 rfl
                have hT := lexR_tok _ (pcs s.data.toList) 0 ts (Nat.le_refl _) (Pcd.of _) h1 t (by rw [e2.1]; simp)
                obtain ⟨x, R, f, hf, -, -, k1, -, -⟩ := hT
                rcases tokF_of hf with h | h | h | h <;> have := h.1 <;> omega
            · cases h
          · rw [if_neg h0] at h; cases h
/-- The same tokens elsewhere. -/
theorem carry_sh {ts : List Tk} {e : Ex} {n : Nat} (h : PE 0 (ts ++ [endT n]) (.ok (e, [endT n]))) (d : Nat) (Z : List Tk) (hZ : ∀ l, opH l Z = none) : PE 0 (ts.map (Tk.sh d) ++ Z) (.ok (e, Z)) := by
  obtain ⟨Q, h1, h2⟩ := PE.carry (g := Tk.sh d) (fun t => ⟨rfl, rfl, rfl⟩) rfl hZ h
  obtain rfl : Q = [] := by
    cases Q with
    | nil => rfl
    | cons t Q => simp at h1
  exact h2
theorem shut_Z {t : Tk} {q : List Tk} (h : key t = sgK [41]) : ∀ l, opH l (t :: q) = none := fun l => by rw [opH_of h]; exact (shut_no l).1
/-- In brackets. -/
theorem brack {ts q : List Tk} {e : Ex} {n d : Nat} {o c : Tk} (h : PE 0 (ts ++ [endT n]) (.ok (e, [endT n]))) (ho : key o = sgK [40]) (hc : key c = sgK [41]) : PU (o :: (ts.map (Tk.sh d) ++ c :: q)) (.ok (e, q)) := by
  refine PU.atom (by rw [isS_of ho]; decide) (by rw [isS_of ho]; decide) ?_
  exact PA.paren (by rw [isS_of ho]; decide) (carry_sh h d (c :: q) (shut_Z hc)) (by rw [isS_of hc]; decide)
theorem lexL_32 (b : List UInt8) : lexL (32 :: b) = shE 1 (lexL b) := by
  have := lexL_app lexL_nil (c := 32) (.inl rfl) b
  rw [ahead_nil] at this
  simpa using this
theorem lexL_close : lexL [41] = .ok [⟨4, [41], 0, 0⟩] := by
  rw [lexL_sign (c := 41) (by decide) (by intro h; exact absurd h (by decide)), lexL_nil]; rfl
/-- Blanks and brackets around. -/
def wrapB (l : List UInt8) : List UInt8 := [32, 40, 32] ++ l ++ [32, 41]
theorem wrap_lex {l : List UInt8} {ts : List Tk} (h : lexL l = .ok ts) : ∃ o c, lexL (wrapB l) = .ok (o :: (ts.map (Tk.sh 3) ++ [c])) ∧ key o = sgK [40] ∧ key c = sgK [41] := by
  have h1 : lexL (l ++ 32 :: [41]) = .ok (ts ++ [Tk.sh (l.length + 1) ⟨4, [41], 0, 0⟩]) := by
    rw [lexL_app h (c := 32) (.inl rfl), lexL_close]; rfl
  refine ⟨Tk.sh 1 ⟨4, [40], 0, 0⟩, Tk.sh 1 (Tk.sh 1 (Tk.sh 1 (Tk.sh (l.length + 1) ⟨4, [41], 0, 0⟩))), ?_, rfl, rfl⟩
  have e : wrapB l = 32 :: 40 :: 32 :: (l ++ 32 :: [41]) := by simp [wrapB]
  rw [e, lexL_32, lexL_sign (c := 40) (by decide) (by intro h; exact absurd h (by decide)), lexL_32, h1]
  simp only [shE, ahead, List.map_cons, List.map_append, List.map_map, List.map_nil, List.cons_append, List.nil_append]
  rfl
theorem wrap_says {l : List UInt8} {e : Ex} (h : Says l (.ok e)) (hl : l.length + 5 ≤ 400) : Says (wrapB l) (.ok e) := by
  obtain ⟨-, hc, ts, h1, h2⟩ := says_ok (s := ⟨l.toArray⟩) (by simpa using h)
  have e1 : (⟨l.toArray⟩ : ByteArray).data.toList = l := by simp
  rw [e1] at h1 h2
  obtain ⟨o, c, h3, ho, hcc⟩ := wrap_lex h1
  refine .inr ⟨by unfold wrapB; simp; omega, .inr ⟨_, .ok (e, [endT (wrapB l).length]), h3, ?_, ?_⟩⟩
  · have := brack (d := 3) (q := [endT (wrapB l).length]) h2 ho hcc
    have hw := PE.whole this (endT_opH _ _)
    simpa using hw
  · have : endR (.ok (e, [endT (wrapB l).length])) = if chkB e then .ok e else .error (0, 7) := rfl
    rw [this, if_pos hc]
def wraps : Nat → List UInt8 → List UInt8
  | 0, l => l
  | n + 1, l => wrapB (wraps n l)
theorem wraps_len (l : List UInt8) : ∀ n, (wraps n l).length = l.length + 5 * n
  | 0 => rfl
  | n + 1 => by
    have := wraps_len l n
    rw [wraps, wrapB]; simp; omega
theorem wraps_says {l : List UInt8} {e : Ex} (h : Says l (.ok e)) : ∀ n, l.length + 5 * n ≤ 400 → Says (wraps n l) (.ok e)
  | 0, _ => h
  | n + 1, hl => wrap_says (wraps_says h n (by omega)) (by rw [wraps_len]; omega)
theorem and_seven (x : Int) : ∃ m : Nat, m < 8 ∧ bits .and .i64 x 7 = (m : Int) := by
  refine ⟨(BitVec.ofInt 64 x).toNat &&& 7, Nat.lt_succ_of_le Nat.and_le_right, ?_⟩
  have h : (BitVec.ofInt 64 x).toNat &&& 7 ≤ 7 := Nat.and_le_right
  unfold bits
  show IntKind.i64.wrap (((BitVec.ofInt 64 x &&& BitVec.ofInt 64 7).toNat : Nat) : Int) = _
  rw [BitVec.toNat_and, show (BitVec.ofInt 64 7).toNat = 7 by decide, IntKind.wrap_i64]
  omega
/-- Two in brackets, with a sign between. -/
theorem lexL_two {c : UInt8} (hc : c = 33 ∨ c = 60 ∨ c = 62) (b : List UInt8) : lexL (c :: 61 :: b) = ahead [⟨4, [c, 61], 0, 0⟩] (shE 2 (lexL b)) := by
  have hS : isSign c.toNat = true ∧ isTwo c.toNat = true := by rcases hc with rfl | rfl | rfl <;> decide
  obtain ⟨h3, h2, h1', h34, hlt⟩ := sign_not hS.1
  have e61 : pcs (61 :: b) = (61, [61]) :: pcs b := pcs_asc 61 b (by decide)
  unfold lexL
  rw [pcs_asc c _ hlt, e61]
  have ht : tokF (c.toNat, [c]) ((61, [61]) :: pcs b) = some ⟨4, [c, 61], 0, 1⟩ := by
    unfold tokF
    rw [if_neg h2, if_neg h1', if_neg h34]
    unfold signF
    dsimp only
    rw [if_pos hS.1, if_pos ⟨hS.2, rfl⟩, UInt8.ofNat_toNat]
  rw [lexR_some _ _ _ h3 _ ht]
  dsimp only
  rw [List.drop_succ_cons, List.drop_zero, List.take_succ_cons, List.take_zero, flat_cons, flat_cons, flat_nil, List.append_nil]
  have := lexR_sh 2 _ (pcs b) 0 (Nat.le_refl _)
  rw [← this]
  rfl
def sgA7 : List (List UInt8) := [[43], [45], [42], [47], [37], [61], [33, 61], [60], [60, 61], [38], [124]]
theorem sgA7_of : ∀ k : Fin 11, ∃ l : Fin 5, opSign (7 + k.val) = some (l.val, sgA7.getD k.val []) := by decide
/-- A sign ahead of an opening bracket is one token. -/
theorem sgA7_lex (k : Nat) (hk : k < 11) (b : List UInt8) : ∃ d, lexL (sgA7.getD k [] ++ 40 :: b) = ahead [⟨4, sgA7.getD k [], 0, 0⟩] (shE d (lexL (40 :: b))) := by
  have one : ∀ c : UInt8, isSign c.toNat = true → ∃ d, lexL ([c] ++ 40 :: b) = ahead [⟨4, [c], 0, 0⟩] (shE d (lexL (40 :: b))) := fun c hc => ⟨1, lexL_sign hc (fun _ => by simp)⟩
  have : k = 0 ∨ k = 1 ∨ k = 2 ∨ k = 3 ∨ k = 4 ∨ k = 5 ∨ k = 6 ∨ k = 7 ∨ k = 8 ∨ k = 9 ∨ k = 10 := by omega
  rcases this with rfl | rfl | rfl | rfl | rfl | rfl | rfl | rfl | rfl | rfl | rfl
  · exact one 43 (by decide)
  · exact one 45 (by decide)
  · exact one 42 (by decide)
  · exact one 47 (by decide)
  · exact one 37 (by decide)
  · exact one 61 (by decide)
  · exact ⟨2, lexL_two (.inl rfl) _⟩
  · exact one 60 (by decide)
  · exact ⟨2, lexL_two (.inr (.inl rfl)) _⟩
  · exact one 38 (by decide)
  · exact one 124 (by decide)
def partsT (s t : List UInt8) (k : Nat) : List UInt8 := 40 :: (s ++ 41 :: (sgA7.getD k [] ++ 40 :: (t ++ [41])))
theorem sh_sh (a b : Nat) (ts : List Tk) : (ts.map (Tk.sh a)).map (Tk.sh b) = ts.map (Tk.sh (a + b)) := by
  rw [List.map_map]
  refine List.map_congr_left fun t _ => ?_
  simp [Tk.sh, Nat.add_assoc]
theorem parts_lex {s t : List UInt8} {ts us : List Tk} (h1 : lexL s = .ok ts) (h2 : lexL t = .ok us) (k : Nat) (hk : k < 11) :
    ∃ o c g o2 c2 d1 d2, lexL (partsT s t k) = .ok (o :: (ts.map (Tk.sh d1) ++ c :: g :: o2 :: (us.map (Tk.sh d2) ++ [c2]))) ∧ key o = sgK [40] ∧ key c = sgK [41] ∧ key g = sgK (sgA7.getD k []) ∧ key o2 = sgK [40] ∧ key c2 = sgK [41] := by
  obtain ⟨d, hd⟩ := sgA7_lex k hk (t ++ [41])
  have e1 : lexL (t ++ [41]) = .ok (us ++ [Tk.sh t.length ⟨4, [41], 0, 0⟩]) := by
    rw [lexL_then h2 stop_41 [], lexL_close]; rfl
  have e2 : lexL (40 :: (t ++ [41])) = .ok (⟨4, [40], 0, 0⟩ :: (us.map (Tk.sh 1) ++ [Tk.sh 1 (Tk.sh t.length ⟨4, [41], 0, 0⟩)])) := by
    rw [lexL_sign (c := 40) (by decide) (by intro h; exact absurd h (by decide)), e1]
    simp [shE, ahead]
  have e3 : lexL (41 :: (sgA7.getD k [] ++ 40 :: (t ++ [41]))) = .ok (⟨4, [41], 0, 0⟩ :: Tk.sh 1 ⟨4, sgA7.getD k [], 0, 0⟩ :: Tk.sh 1 (Tk.sh d ⟨4, [40], 0, 0⟩) :: (us.map (Tk.sh (1 + d + 1)) ++ [Tk.sh 1 (Tk.sh d (Tk.sh 1 (Tk.sh t.length ⟨4, [41], 0, 0⟩)))])) := by
    rw [lexL_sign (c := 41) (by decide) (by intro h; exact absurd h (by decide)), hd, e2]
    simp only [shE, ahead, List.map_cons, List.map_append, List.map_nil, List.cons_append, List.nil_append, sh_sh]
  unfold partsT
  rw [lexL_sign (c := 40) (by decide) (by intro h; exact absurd h (by decide)), lexL_then h1 stop_41, e3]
  refine ⟨⟨4, [40], 0, 0⟩, Tk.sh 1 (Tk.sh s.length ⟨4, [41], 0, 0⟩), Tk.sh 1 (Tk.sh s.length (Tk.sh 1 ⟨4, sgA7.getD k [], 0, 0⟩)), Tk.sh 1 (Tk.sh s.length (Tk.sh 1 (Tk.sh d ⟨4, [40], 0, 0⟩))),
    Tk.sh 1 (Tk.sh s.length (Tk.sh 1 (Tk.sh d (Tk.sh 1 (Tk.sh t.length ⟨4, [41], 0, 0⟩))))), 1, 1 + d + 1 + s.length + 1, ?_, rfl, rfl, rfl, rfl, rfl⟩
  simp only [shE, ahead, List.map_cons, List.map_append, List.map_nil, List.cons_append, List.nil_append, sh_sh]
theorem parts_says {s t : List UInt8} {a b : Ex} (hs : Says s (.ok a)) (ht : Says t (.ok b)) (k : Nat) (hk : k < 11) (hl : (partsT s t k).length ≤ 400) :
    Says (partsT s t k) (if chkB (.mk ((7 + k : Nat) : Int) 0 [] [a, b]) then .ok (.mk ((7 + k : Nat) : Int) 0 [] [a, b]) else .error (0, 7)) := by
  obtain ⟨-, -, ts, h1, h2⟩ := says_ok (s := ⟨s.toArray⟩) (by simpa using hs)
  obtain ⟨-, -, us, h3, h4⟩ := says_ok (s := ⟨t.toArray⟩) (by simpa using ht)
  rw [show (⟨s.toArray⟩ : ByteArray).data.toList = s by simp] at h1 h2
  rw [show (⟨t.toArray⟩ : ByteArray).data.toList = t by simp] at h3 h4
  obtain ⟨o, c, g, o2, c2, d1, d2, hL, ko, kc, kg, ko2, kc2⟩ := parts_lex h1 h3 k hk
  obtain ⟨⟨l, hl5⟩, hop⟩ := sgA7_of ⟨k, hk⟩
  refine .inr ⟨hl, .inr ⟨_, .ok (.mk ((7 + k : Nat) : Int) 0 [] [a, b], [endT (partsT s t k).length]), hL, ?_, rfl⟩⟩
  have hA := brack (d := d1) (q := g :: o2 :: (us.map (Tk.sh d2) ++ [c2] ++ [endT (partsT s t k).length])) h2 ko kc
  have hB := brack (d := d2) (q := [endT (partsT s t k).length]) h4 ko2 kc2
  have := PE.pair hop kg hA (by simpa using hB) (endT_opH _ _)
  simpa using this
end
end Go.Proofs.YtlhofjhkiollgaaGreatDoor
