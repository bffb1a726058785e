/- Plain mathematics of frames: a body with its length and sum; what begins at a place; the frames of any bytes; cut frames; a turned byte. Nothing of the program. -/
import Derived.Test.YtpkbjiakjofcnaaWireMath
import Derived.Test.YtpkbjiakjofcnaaSumMath
namespace Go.Proofs.Ytpkbjiakjofcnaa

/-- The four bytes of a sum, the lowest first. -/
def four (s : BitVec 32) : List UInt8 := [UInt8.ofNat (s.toNat % 256), UInt8.ofNat (s.toNat / 256 % 256), UInt8.ofNat (s.toNat / 65536 % 256), UInt8.ofNat (s.toNat / 16777216 % 256)]
theorem four_len (s : BitVec 32) : (four s).length = 4 := rfl
theorem ofNat_inj {a b : Nat} (ha : a < 256) (hb : b < 256) (h : UInt8.ofNat a = UInt8.ofNat b) : a = b := by
  have h2 := congrArg UInt8.toNat h
  rwa [u8_of ha, u8_of hb] at h2
theorem four_inj {s t : BitVec 32} (h : four s = four t) : s = t := by
  unfold four at h
  simp only [List.cons.injEq, and_true] at h
  obtain ⟨h0, h1, h2, h3⟩ := h
  have e0 := ofNat_inj (Nat.mod_lt _ (by decide)) (Nat.mod_lt _ (by decide)) h0
  have e1 := ofNat_inj (Nat.mod_lt _ (by decide)) (Nat.mod_lt _ (by decide)) h1
  have e2 := ofNat_inj (Nat.mod_lt _ (by decide)) (Nat.mod_lt _ (by decide)) h2
  have e3 := ofNat_inj (Nat.mod_lt _ (by decide)) (Nat.mod_lt _ (by decide)) h3
  apply BitVec.eq_of_toNat_eq
  have := s.isLt
  have := t.isLt
  omega

def sumF (body : List UInt8) : BitVec 32 := moreB (moreB 0#32 (putI (body.length : Int))) body
def headF (body : List UInt8) : List UInt8 := putI (body.length : Int) ++ four (sumF body)
def putF (body : List UInt8) : List UInt8 := headF body ++ body
def okF (body : List UInt8) : Prop := 1 ≤ body.length ∧ body.length ≤ 1048576
theorem headF_len (body : List UInt8) : (headF body).length = (putI (body.length : Int)).length + 4 := by
  unfold headF; rw [List.length_append, four_len]
theorem putF_len (body : List UInt8) : (putF body).length = (putI (body.length : Int)).length + 4 + body.length := by
  unfold putF; rw [List.length_append, headF_len]
theorem putF_pos (body : List UInt8) : 5 ≤ (putF body).length := by
  rw [putF_len]; have := putI_pos (body.length : Int); omega
theorem putI_four {n : Nat} (h : n ≤ 1048576) : (putI (n : Int)).length ≤ 4 := by
  unfold putI
  refine enc_len_pow 3 _ ?_
  rw [uz_pos (by omega)]
  omega

/-- The body of the frame that begins there, if one does. -/
def fr (R : List UInt8) : Option (List UInt8) :=
  match rdU 0 0 R with
  | none => none
  | some (u, T) => if 1 ≤ zz u ∧ zz u ≤ 1048576 ∧ zz u + 4 ≤ (T.length : Int) ∧ headF ((T.drop 4).take (zz u).toNat) <+: R then some ((T.drop 4).take (zz u).toNat) else none
theorem rd_prefix {L T : List UInt8} {u : Nat} (h : rdU 0 0 L = some (u, T)) (X : List UInt8) : rdU 0 0 (L ++ X) = some (u, T ++ X) := by
  obtain ⟨x, e1, e2, _, e4⟩ := rdU_back L 0 0 u T (by decide) h
  have e5 : u = x := by rw [e2]; simp
  subst e5
  have e6 : u < 18446744073709551616 := by simpa using e4
  rw [e1, List.append_assoc, rdU_enc u 0 0 u (T ++ X) (Nat.le_refl _) (by decide) (fun h => absurd h (by decide)) (by simpa using e6)]
  simp
theorem rd_enc {u : Nat} {L T : List UInt8} (h : rdU 0 0 L = some (u, T)) : L = enc u ++ T ∧ u < 18446744073709551616 := by
  obtain ⟨x, e1, e2, _, e4⟩ := rdU_back L 0 0 u T (by decide) h
  have e5 : u = x := by rw [e2]; simp
  subst e5
  exact ⟨e1, by simpa using e4⟩
theorem rd_put (n : Nat) (hn : n ≤ 140737488355328) (X : List UInt8) : rdU 0 0 (putI (n : Int) ++ X) = some (uz (n : Int), X) := by
  have h := rdU_enc (uz (n : Int)) 0 0 (uz (n : Int)) X (Nat.le_refl _) (by decide) (fun h => absurd h (by decide)) (by simpa using uz_lt (v := (n : Int)) (by omega) (by omega))
  show rdU 0 0 (enc (uz (n : Int)) ++ X) = _
  rw [h]; simp
theorem fr_put {body : List UInt8} (h : okF body) (X : List UInt8) : fr (putF body ++ X) = some body := by
  have e : putF body ++ X = putI (body.length : Int) ++ (four (sumF body) ++ (body ++ X)) := by unfold putF headF; simp only [List.append_assoc]
  have hr := rd_put body.length (by have := h.2; omega) (four (sumF body) ++ (body ++ X))
  rw [← e] at hr
  have hd : ((four (sumF body) ++ (body ++ X)).drop 4).take (body.length) = body := by
    have : (four (sumF body) ++ (body ++ X)).drop 4 = body ++ X := by
      have := List.drop_left (l₁ := four (sumF body)) (l₂ := body ++ X)
      rwa [four_len] at this
    rw [this, List.take_left]
  unfold fr
  rw [hr]
  simp only [zz_uz, Int.toNat_natCast]
  rw [hd, if_pos]
  refine ⟨by have := h.1; omega, by have := h.2; omega, by simp only [List.length_append, four_len]; omega, ?_⟩
  unfold putF
  rw [List.append_assoc]
  exact List.prefix_append _ _
theorem fr_some {R body : List UInt8} (h : fr R = some body) : okF body ∧ ∃ X, R = putF body ++ X := by
  unfold fr at h
  cases hr : rdU 0 0 R with
  | none => rw [hr] at h; cases h
  | some p =>
    obtain ⟨u, T⟩ := p
    rw [hr] at h
    simp only at h
    split at h
    · rename_i hc
      obtain ⟨h1, h2, h3, X, hX⟩ := hc
      injection h with h
      subst h
      obtain ⟨e, hu⟩ := rd_enc hr
      obtain ⟨n, hn⟩ : ∃ n : Nat, zz u = (n : Int) := ⟨(zz u).toNat, by omega⟩
      rw [hn] at h1 h2 h3 hX ⊢
      simp only [Int.toNat_natCast] at hX ⊢
      have hl : ((T.drop 4).take n).length = n := by rw [List.length_take, List.length_drop]; omega
      have hen : putI (n : Int) = enc u := by unfold putI; rw [← hn, uz_zz]
      refine ⟨⟨by omega, by omega⟩, T.drop (4 + n), ?_⟩
      have hX2 := hX
      rw [e] at hX2
      unfold headF at hX2
      rw [hl, hen, List.append_assoc] at hX2
      have hT := List.append_cancel_left hX2
      have h4 : X = T.drop 4 := by
        rw [← hT]
        have := List.drop_left (l₁ := four (sumF ((T.drop 4).take n))) (l₂ := X)
        rw [four_len] at this
        exact this.symm
      rw [← hX]
      unfold putF
      rw [List.append_assoc]
      congr 1
      rw [h4, ← List.drop_drop, List.take_append_drop]
    · cases h
theorem fr_nil : fr [] = none := rfl
theorem putF_inj {a b X Y : List UInt8} (ha : okF a) (hb : okF b) (h : putF a ++ X = putF b ++ Y) : a = b ∧ X = Y := by
  have h1 := fr_put ha X
  rw [h, fr_put hb Y] at h1
  injection h1 with h1
  subst h1
  exact ⟨rfl, List.append_cancel_left h⟩
/-- A piece of a frame is none. -/
theorem fr_piece {b : List UInt8} (hb : okF b) {k : Nat} (hk : k < (putF b).length) : fr ((putF b).take k) = none := by
  cases h : fr ((putF b).take k) with
  | none => rfl
  | some c =>
    obtain ⟨hc, X, e⟩ := fr_some h
    have e2 : putF c ++ (X ++ (putF b).drop k) = putF b ++ [] := by rw [← List.append_assoc, ← e, List.take_append_drop, List.append_nil]
    obtain ⟨rfl, _⟩ := putF_inj hc hb e2
    have := congrArg List.length e
    rw [List.length_take, List.length_append] at this
    omega

/-- The program looks at four bytes alone for the length. -/
theorem win_none {R : List UInt8} (h : rdU 0 0 (R.take 4) = none) : fr R = none := by
  cases hf : fr R with
  | none => rfl
  | some b =>
    obtain ⟨hb, X, e⟩ := fr_some hf
    exfalso
    have hl := putI_four hb.2
    have e2 : R = putI (b.length : Int) ++ (four (sumF b) ++ (b ++ X)) := by rw [e]; unfold putF headF; simp only [List.append_assoc]
    have h4 : R.take 4 = putI (b.length : Int) ++ (four (sumF b) ++ (b ++ X)).take (4 - (putI (b.length : Int)).length) := by
      rw [e2, List.take_append, List.take_of_length_le hl]
    rw [h4, rd_put _ (by have := hb.2; omega)] at h
    cases h
theorem win_some {R T : List UInt8} {u : Nat} (h : rdU 0 0 (R.take 4) = some (u, T)) : rdU 0 0 R = some (u, T ++ R.drop 4) := by
  have := rd_prefix h (R.drop 4)
  rwa [List.take_append_drop] at this
/-- What is asked of the length that was read, and of the head. -/
theorem fr_small {R T : List UInt8} {u : Nat} (h : rdU 0 0 (R.take 4) = some (u, T)) (hn : ¬ (1 ≤ zz u ∧ zz u ≤ 1048576 ∧ zz u ≤ (R.length : Int) - ((R.take 4).length - T.length + 4))) : fr R = none := by
  unfold fr
  rw [win_some h]
  simp only
  rw [if_neg]
  rintro ⟨h1, h2, h3, _⟩
  apply hn
  refine ⟨h1, h2, ?_⟩
  rw [List.length_append, List.length_drop] at h3
  rw [List.length_take]
  have e := (rd_enc h).1
  have el := congrArg List.length e
  rw [List.length_append, List.length_take] at el
  omega
theorem fr_body {R T : List UInt8} {u n st : Nat} (h : rdU 0 0 (R.take 4) = some (u, T)) (hn : zz u = (n : Int)) (hst : st = (R.take 4).length - T.length + 4) (h1 : 1 ≤ n) (h2 : n ≤ 1048576) (h3 : n + st ≤ R.length) :
    ((R.drop st).take n).length = n ∧ st = (headF ((R.drop st).take n)).length ∧ fr R = if headF ((R.drop st).take n) <+: R then some ((R.drop st).take n) else none := by
  have e := (rd_enc h).1
  have el := congrArg List.length e
  rw [List.length_append] at el
  have hl : ((R.drop st).take n).length = n := by rw [List.length_take, List.length_drop]; omega
  have hen : putI (n : Int) = enc u := by unfold putI; rw [← hn, uz_zz]
  have hR : R = enc u ++ (T ++ R.drop 4) := by rw [← List.append_assoc, ← e, List.take_append_drop]
  have hd : (T ++ R.drop 4).drop 4 = R.drop st := by
    have h5 : R.drop (enc u).length = T ++ R.drop 4 := by
      conv => lhs; rw [hR]
      exact List.drop_left
    rw [← h5, List.drop_drop]
    congr 1
    omega
  refine ⟨hl, by rw [headF_len, hl, hen]; omega, ?_⟩
  unfold fr
  rw [win_some h]
  simp only [hn, Int.toNat_natCast, hd]
  have hlt : (n : Int) + 4 ≤ ((T ++ R.drop 4).length : Int) := by
    rw [List.length_append, List.length_drop]
    rw [List.length_take] at el
    rw [List.length_take] at hst
    omega
  by_cases hp : headF ((R.drop st).take n) <+: R
  · rw [if_pos hp, if_pos ⟨by omega, by omega, hlt, hp⟩]
  · rw [if_neg hp, if_neg (fun h => hp h.2.2.2)]

/-- Bodies in frames, one behind the other. -/
def flat (bs : List (List UInt8)) : List UInt8 := (bs.map putF).flatten
theorem flat_nil : flat [] = [] := rfl
theorem flat_cons (b : List UInt8) (bs : List (List UInt8)) : flat (b :: bs) = putF b ++ flat bs := rfl
theorem flat_append (a b : List (List UInt8)) : flat (a ++ b) = flat a ++ flat b := by unfold flat; rw [List.map_append, List.flatten_append]
theorem flat_one (b : List UInt8) : flat [b] = putF b := by rw [flat_cons, flat_nil, List.append_nil]
/-- All frames of L: bs, and behind them R, where none begins. -/
structure Frs (L : List UInt8) (bs : List (List UInt8)) (R : List UInt8) : Prop where
  all : L = flat bs ++ R
  ok : ∀ b ∈ bs, okF b
  none : fr R = Option.none
theorem frs_of (L : List UInt8) : ∃ bs R, Frs L bs R := by
  have : ∀ (n : Nat) (L : List UInt8), L.length ≤ n → ∃ bs R, Frs L bs R := by
    intro n
    induction n with
    | zero =>
      intro L h
      obtain rfl : L = [] := List.eq_nil_of_length_eq_zero (by omega)
      exact ⟨[], [], rfl, by simp, rfl⟩
    | succ n ih =>
      intro L h
      cases hf : fr L with
      | none => exact ⟨[], L, rfl, by simp, hf⟩
      | some b =>
        obtain ⟨hb, X, e⟩ := fr_some hf
        have := putF_pos b
        have hl := congrArg List.length e
        rw [List.length_append] at hl
        obtain ⟨bs, R, h1, h2, h3⟩ := ih X (by omega)
        refine ⟨b :: bs, R, by rw [flat_cons, List.append_assoc, ← h1, e], fun c hc => ?_, h3⟩
        rcases List.mem_cons.1 hc with rfl | hc
        · exact hb
        · exact h2 c hc
  exact this L.length L (Nat.le_refl _)
/-- Where frame i begins. -/
def pos (bs : List (List UInt8)) (i : Nat) : Nat := (flat (bs.take i)).length
theorem pos_zero (bs : List (List UInt8)) : pos bs 0 = 0 := rfl
theorem pos_succ {bs : List (List UInt8)} {i : Nat} (h : i < bs.length) : pos bs (i + 1) = pos bs i + (putF bs[i]).length := by
  unfold pos; rw [List.take_succ_eq_append_getElem h, flat_append, List.length_append, flat_one]
theorem pos_all (bs : List (List UInt8)) : pos bs bs.length = (flat bs).length := by unfold pos; rw [List.take_length]
theorem pos_le (bs : List (List UInt8)) (i : Nat) : pos bs i ≤ (flat bs).length := by
  unfold pos
  conv => rhs; rw [← List.take_append_drop i bs, flat_append, List.length_append]
  omega
theorem pos_six {bs : List (List UInt8)} (hok : ∀ b ∈ bs, okF b) {i : Nat} (h : i < bs.length) : pos bs i + 6 ≤ pos bs (i + 1) := by
  rw [pos_succ h, putF_len]
  have := (hok _ (List.getElem_mem h)).1
  have := putI_pos (bs[i].length : Int)
  omega
theorem pos_step {bs : List (List UInt8)} {i : Nat} : pos bs i ≤ pos bs (i + 1) := by
  by_cases h : i < bs.length
  · rw [pos_succ h]; omega
  · unfold pos; rw [List.take_of_length_le (by omega), List.take_of_length_le (by omega)]; omega
theorem pos_mono {bs : List (List UInt8)} {i j : Nat} (h : i ≤ j) : pos bs i ≤ pos bs j := by
  induction h with
  | refl => exact Nat.le_refl _
  | step _ ih => exact Nat.le_trans ih pos_step
theorem pos_many {bs : List (List UInt8)} (hok : ∀ b ∈ bs, okF b) : ∀ i, i ≤ bs.length → 6 * i ≤ pos bs i
  | 0, _ => Nat.zero_le _
  | i + 1, h => by
    have := pos_many hok i (by omega)
    have := pos_six hok (show i < bs.length by omega)
    omega
section
variable {L R : List UInt8} {bs : List (List UInt8)}
theorem Frs.drop (h : Frs L bs R) (i : Nat) : L.drop (pos bs i) = flat (bs.drop i) ++ R := by
  have h1 : L = flat (bs.take i) ++ (flat (bs.drop i) ++ R) := by
    rw [← List.append_assoc, ← flat_append, List.take_append_drop, ← h.all]
  unfold pos
  conv => lhs; rw [h1]
  exact List.drop_left
theorem Frs.yes (h : Frs L bs R) {i : Nat} (hi : i < bs.length) : fr (L.drop (pos bs i)) = some bs[i] := by
  rw [h.drop i, List.drop_eq_getElem_cons hi, flat_cons, List.append_assoc]
  exact fr_put (h.ok _ (List.getElem_mem hi)) _
theorem Frs.no (h : Frs L bs R) : fr (L.drop (pos bs bs.length)) = Option.none := by
  rw [h.drop, List.drop_length, flat_nil, List.nil_append]; exact h.none
theorem Frs.le (h : Frs L bs R) (i : Nat) : pos bs i ≤ L.length := by
  rw [h.all, List.length_append]; have := pos_le bs i; omega
theorem Frs.lt (h : Frs L bs R) {i : Nat} (hi : i < bs.length) : pos bs i < L.length := by
  have := h.le (i + 1); have := pos_six h.ok hi; omega
theorem Frs.whole (h : Frs L bs R) : pos bs bs.length = L.length ↔ R = [] := by
  rw [pos_all]
  have := congrArg List.length h.all
  rw [List.length_append] at this
  constructor
  · intro e; exact List.eq_nil_of_length_eq_zero (by omega)
  · rintro rfl; simp at this; omega
end
theorem frs_flat {bs : List (List UInt8)} (hok : ∀ b ∈ bs, okF b) : Frs (flat bs) bs [] := ⟨by simp, hok, rfl⟩
/-- Frames cut anywhere: those that are whole. -/
theorem frs_cut {bs : List (List UInt8)} (hok : ∀ b ∈ bs, okF b) {k n : Nat} (hn : n ≤ bs.length) (h1 : pos bs n ≤ k) (h2 : n < bs.length → k < pos bs (n + 1)) :
    ∃ R, Frs ((flat bs).take k) (bs.take n) R := by
  refine ⟨(flat (bs.drop n)).take (k - pos bs n), ?_, fun b hb => hok b (List.mem_of_mem_take hb), ?_⟩
  · have e : flat bs = flat (bs.take n) ++ flat (bs.drop n) := by rw [← flat_append, List.take_append_drop]
    conv => lhs; rw [e, List.take_append, List.take_of_length_le h1]
    rfl
  · by_cases h : n < bs.length
    · rw [List.drop_eq_getElem_cons h, flat_cons]
      have h3 := h2 h
      rw [pos_succ h] at h3
      rw [List.take_append_of_le_length (by omega)]
      exact fr_piece (hok _ (List.getElem_mem h)) (by omega)
    · rw [List.drop_of_length_le (by omega), flat_nil, List.take_nil]
      rfl

/-- A byte that is turned, wherever it is: no frame of all the bytes. -/
theorem turn_told {body c : List UInt8} {k : Nat} {x : UInt8} (hk : k < (putF body).length) (hx : x ≠ (putF body)[k]) (h : putF c = (putF body).set k x) : False := by
  have hl := congrArg List.length h
  rw [List.length_set, putF_len, putF_len] at hl
  have hn : c.length = body.length := by
    rcases Nat.lt_trichotomy c.length body.length with h1 | h1 | h1
    · have := putI_up (a := (c.length : Int)) (b := (body.length : Int)) (by omega) (by omega); omega
    · exact h1
    · have := putI_up (a := (body.length : Int)) (b := (c.length : Int)) (by omega) (by omega); omega
  have e1 : putF c = putI (body.length : Int) ++ (four (sumF c) ++ c) := by unfold putF headF; rw [hn]; simp only [List.append_assoc]
  have e2 : putF body = putI (body.length : Int) ++ (four (sumF body) ++ body) := by unfold putF headF; simp only [List.append_assoc]
  have hs1 : sumF c = moreB (moreB 0#32 (putI (body.length : Int))) c := by unfold sumF; rw [hn]
  have hs2 : sumF body = moreB (moreB 0#32 (putI (body.length : Int))) body := rfl
  generalize putI (body.length : Int) = P at *
  have hg : ∀ j, (hj : j < (putF body).length) → j ≠ k → (putF c)[j]'(by rw [h, List.length_set]; exact hj) = (putF body)[j] := by
    intro j hj hne
    have h5 : (putF c)[j]? = ((putF body).set k x)[j]? := by rw [h]
    rw [List.getElem?_set_ne (fun e => hne e.symm), List.getElem?_eq_getElem (by rw [h, List.length_set]; exact hj), List.getElem?_eq_getElem hj] at h5
    injection h5
  have hkx : (putF c)[k]? = some x := by rw [h, List.getElem?_set_self hk]
  have hko : (putF body)[k]? = some (putF body)[k] := List.getElem?_eq_getElem hk
  generalize (putF body)[k] = y at *
  rw [e1, e2] at h
  by_cases h1 : k < P.length
  · rw [e1, List.getElem?_append_left h1] at hkx
    rw [e2, List.getElem?_append_left h1] at hko
    rw [hkx] at hko
    injection hko with hko
    exact hx hko
  · rw [List.set_append_right _ _ (by omega)] at h
    have h3 := List.append_cancel_left h
    have hfl := four_len (sumF body)
    have hfl2 := four_len (sumF c)
    by_cases h2 : k - P.length < 4
    · rw [List.set_append_left _ _ (by omega)] at h3
      have h4 := (List.append_inj h3 (by rw [List.length_set, hfl, hfl2])).2
      subst h4
      rw [e1] at hkx
      rw [e2] at hko
      rw [hkx] at hko
      injection hko with hko
      exact hx hko
    · rw [List.set_append_right _ _ (by omega)] at h3
      obtain ⟨h4, h5⟩ := List.append_inj h3 (by rw [hfl, hfl2])
      have h6 := four_inj h4
      rw [hs1, hs2] at h6
      rw [hfl] at h5
      have hj : k - P.length - 4 < body.length := by rw [putF_len, ← hn] at hk; have := congrArg List.length e2; rw [List.length_append, List.length_append, hfl, putF_len] at this; omega
      have hy : body[k - P.length - 4] = y := by
        rw [e2, List.getElem?_append_right (by omega), List.getElem?_append_right (by omega), hfl, List.getElem?_eq_getElem hj] at hko
        injection hko
      rw [h5] at h6
      unfold moreB at h6
      rw [fd_set _ _ _ hj (body[k - P.length - 4] ^^^ x) x (by rw [← by8_xor, ← UInt8.xor_assoc, UInt8.xor_self, UInt8.zero_xor])] at h6
      have h7 := congrArg (· ^^^ onesB) h6
      simp only [BitVec.xor_assoc, BitVec.xor_self, BitVec.xor_zero] at h7
      have h8 := congrArg (fd (fd (0#32 ^^^ onesB) P ^^^ (onesB ^^^ onesB)) body ^^^ ·) h7
      simp only [← BitVec.xor_assoc, BitVec.xor_self, BitVec.zero_xor, BitVec.xor_zero] at h8
      refine stN_ne _ ?_ h8
      intro h9
      have h10 : (body[k - P.length - 4] ^^^ x).toNat = 0 := by
        have := congrArg BitVec.toNat h9
        unfold by8 at this
        rw [BitVec.toNat_ofNat] at this
        have h11 := (body[k - P.length - 4] ^^^ x).toNat_lt
        generalize (body[k - P.length - 4] ^^^ x).toNat = q at *
        rw [Nat.mod_eq_of_lt (by omega)] at this
        exact this
      have h12 : body[k - P.length - 4] ^^^ x = 0 := UInt8.toNat_inj.1 h10
      rw [hy, UInt8.xor_eq_zero_iff] at h12
      exact hx h12.symm
end Go.Proofs.Ytpkbjiakjofcnaa
