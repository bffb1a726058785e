/- Plain mathematics: what an expression comes to, by what its names are. No program stands in this text. -/
import Derived.Test.YtepppianhafdjaaGreatDoorGG
import Derived.Test.YtepppianhafdjaaGreatDoorMUpM
import Derived.Test.YtepppianhafdjaaGreatDoorGA
namespace Go.Proofs.YtepppianhafdjaaGreatDoor

/-- A value: its kind, its number, its text. -/
structure Va where
  k : Int
  n : Int
  s : List UInt8
def blankV : Va := ⟨0, 0, []⟩
def badV (n : Int) : Va := ⟨4, n, []⟩
def numV (n : Int) : Va := if -9223372036854775808 ≤ n ∧ n ≤ 9223372036854775807 then ⟨1, n, []⟩ else badV 1
def truV (b : Bool) : Va := ⟨2, if b then 1 else 0, []⟩
def texV (s : List UInt8) : Va := if 100 < countL s then badV 4 else ⟨3, 0, s⟩
/-- What comes of a kid that is not what is needed. -/
def wrongV (a : Va) : Va := if a.k = 4 then a else badV 3
def wantV (K : Int) (a f : Va) : Va := if a.k = K then f else wrongV a
def numOp (op a b : Int) : Va :=
  if op = 7 then numV (a + b) else if op = 8 then numV (a - b) else if op = 9 then numV (a * b)
  else if b = 0 then badV 2 else if op = 10 then numV (Int.tdiv a b) else numV (Int.tmod a b)
/-- Whether a comparison holds. -/
def holdB (op : Int) (lt eq : Bool) : Bool := if op = 12 then eq else if op = 13 then !eq else if op = 14 then lt else lt || eq
def cmpV (op : Int) (a b : Va) : Va :=
  if a.k = 1 then wantV 1 b (truV (holdB op (decide (a.n < b.n)) (decide (a.n = b.n))))
  else if a.k = 3 then wantV 3 b (truV (holdB op (decide (a.s < b.s)) (decide (a.s = b.s))))
  else if a.k = 2 then (if op = 14 ∨ op = 15 then badV 3 else wantV 2 b (truV (holdB op false (decide (a.n = b.n)))))
  else wrongV a
def hasV (a : Va) : Bool := decide (a.k ≠ 0 ∧ a.k ≠ 4)
/-- An operation of such kids. -/
def opV (op : Int) (vs : List Va) : Va :=
  let a := vs.getD 0 blankV
  let b := vs.getD 1 blankV
  let c := vs.getD 2 blankV
  if op = 5 then wantV 1 a (numV (0 - a.n))
  else if 7 ≤ op ∧ op ≤ 11 then wantV 1 a (wantV 1 b (numOp op a.n b.n))
  else if op = 6 then wantV 2 a (truV (decide (a.n ≠ 1)))
  else if op = 16 then wantV 2 a (if a.n = 1 then wantV 2 b b else a)
  else if op = 17 then wantV 2 a (if a.n = 1 then a else wantV 2 b b)
  else if 12 ≤ op ∧ op ≤ 15 then cmpV op a b
  else if op = 18 then wantV 2 a (if a.n = 1 then b else c)
  else if op = 19 then wantV 3 a ⟨1, (countL a.s : Int), []⟩
  else if op = 20 then wantV 3 a (wantV 3 b (texV (a.s ++ b.s)))
  else if op = 21 then wantV 3 a (wantV 1 b ⟨3, 0, cutL a.s b.n.toNat⟩)
  else if op = 23 then wantV 3 a (texV (foldL a.s))
  else blankV
/-- The first of that name. -/
def nameV : List ByteArray → List Va → ByteArray → Va
  | [], _, _ => blankV
  | _ :: _, [], _ => blankV
  | n :: ns, v :: vs, s => if n = s then (if checkB v.k v.n v.s then v else blankV) else nameV ns vs s
def strAt (ks : List Ex) : List UInt8 := match ks with | [] => [] | k :: _ => k.str
mutual
def evalE (N : List ByteArray) (V : List Va) : Ex → Va
  | .mk op n s ks => if op = 1 then ⟨1, n, []⟩ else if op = 2 then ⟨3, 0, s⟩ else if op = 3 then ⟨2, n, []⟩ else if op = 4 then nameV N V ⟨s.toArray⟩
    else if op = 22 then truV (hasV (nameV N V ⟨(strAt ks).toArray⟩)) else opV op (evalL N V ks)
def evalL (N : List ByteArray) (V : List Va) : List Ex → List Va
  | [] => []
  | e :: es => evalE N V e :: evalL N V es
end
/-- A value that may be. -/
def Va.ok (a : Va) : Prop := checkB a.k a.n a.s = true ∧ -9223372036854775808 ≤ a.n ∧ a.n ≤ 9223372036854775807
theorem ok_blank : blankV.ok := ⟨by decide, by decide, by decide⟩
theorem ok_bad {n : Int} (h1 : 1 ≤ n) (h2 : n ≤ 4) : (badV n).ok := ⟨by simp [badV, checkB, h1, h2], by show _ ≤ n; omega, by show n ≤ _; omega⟩
theorem ok_num (n : Int) : (numV n).ok := by
  unfold numV
  split
  · rename_i h; exact ⟨by simp [checkB], h.1, h.2⟩
  · exact ok_bad (by decide) (by decide)
theorem ok_tru (b : Bool) : (truV b).ok := by cases b <;> exact ⟨by decide, by decide, by decide⟩
theorem ok_tex {s : List UInt8} (h : validL s = true) : (texV s).ok := by
  unfold texV
  split
  · exact ok_bad (by decide) (by decide)
  · rename_i hc; exact ⟨by simp [checkB, h]; omega, by show _ ≤ (0 : Int); decide, by show (0 : Int) ≤ _; decide⟩
theorem ok_wrong {a : Va} (h : a.ok) : (wrongV a).ok := by
  unfold wrongV
  split
  · exact h
  · exact ok_bad (by decide) (by decide)
theorem ok_want {K : Int} {a f : Va} (ha : a.ok) (hf : a.k = K → f.ok) : (wantV K a f).ok := by
  unfold wantV
  split
  · rename_i h; exact hf h
  · exact ok_wrong ha
theorem Va.ok.text {a : Va} (h : a.ok) (hk : a.k = 3) : validL a.s = true ∧ countL a.s ≤ 100 ∧ a.n = 0 := by
  obtain ⟨k, n, s⟩ := a
  obtain rfl : k = 3 := hk
  rcases check_kind h.1 with h | h | h | h | h
  · exact absurd (show (3 : Int) = 0 from h.1) (by decide)
  · exact absurd (show (3 : Int) = 1 from h.1) (by decide)
  · exact absurd (show (3 : Int) = 2 from h.1) (by decide)
  · exact ⟨h.2.2.1, h.2.2.2, h.2.1⟩
  · exact absurd (show (3 : Int) = 4 from h.1) (by decide)
theorem Va.ok.truth {a : Va} (h : a.ok) (hk : a.k = 2) : (a.n = 0 ∨ a.n = 1) ∧ a.s = [] := by
  obtain ⟨k, n, s⟩ := a
  obtain rfl : k = 2 := hk
  rcases check_kind h.1 with h | h | h | h | h
  · exact absurd (show (2 : Int) = 0 from h.1) (by decide)
  · exact absurd (show (2 : Int) = 1 from h.1) (by decide)
  · exact h.2
  · exact absurd (show (2 : Int) = 3 from h.1) (by decide)
  · exact absurd (show (2 : Int) = 4 from h.1) (by decide)
theorem Va.ok.num {a : Va} (h : a.ok) (hk : a.k = 1) : a.s = [] := by
  obtain ⟨k, n, s⟩ := a
  obtain rfl : k = 1 := hk
  rcases check_kind h.1 with h | h | h | h | h
  · exact absurd (show (1 : Int) = 0 from h.1) (by decide)
  · exact h.2
  · exact absurd (show (1 : Int) = 2 from h.1) (by decide)
  · exact absurd (show (1 : Int) = 3 from h.1) (by decide)
  · exact absurd (show (1 : Int) = 4 from h.1) (by decide)
theorem ok_numOp (op a b : Int) : (numOp op a b).ok := by
  unfold numOp
  repeat' split
  all_goals first | exact ok_num _ | exact ok_bad (by decide) (by decide)
theorem ok_cmp (op : Int) {a b : Va} (ha : a.ok) (hb : b.ok) : (cmpV op a b).ok := by
  unfold cmpV
  repeat' split
  all_goals first | exact ok_want hb (fun _ => ok_tru _) | exact ok_bad (by decide) (by decide) | exact ok_wrong ha
theorem ok_name (N : List ByteArray) (V : List Va) (s : ByteArray) (hV : ∀ v ∈ V, -9223372036854775808 ≤ v.n ∧ v.n ≤ 9223372036854775807) : (nameV N V s).ok := by
  induction N generalizing V with
  | nil => rw [nameV]; exact ok_blank
  | cons n ns ih =>
    cases V with
    | nil => rw [nameV]; exact ok_blank
    | cons v vs =>
      rw [nameV]
      split
      · split
        · rename_i h; exact ⟨h, hV v (List.mem_cons_self ..)⟩
        · exact ok_blank
      · exact ih vs (fun v hv => hV v (List.mem_cons_of_mem _ hv))
theorem valid_app {a b : List UInt8} (ha : validL a = true) (hb : validL b = true) : validL (a ++ b) = true := by
  have e := pcs_append a b ha
  unfold validL at *
  rw [e, List.all_append, ha, hb]; rfl
theorem valid_cutL {a : List UInt8} (n : Nat) (ha : validL a = true) : validL (cutL a n) = true := by
  unfold validL at *
  unfold cutL
  rw [pcs_take]
  rw [List.all_eq_true] at ha ⊢
  exact fun x hx => ha x (List.mem_of_mem_take hx)
theorem ok_op (op : Int) (vs : List Va) (h : ∀ v ∈ vs, v.ok) : (opV op vs).ok := by
  have g : ∀ i, (vs.getD i blankV).ok := fun i => by
    rw [List.getD_eq_getElem?_getD]
    cases hi : vs[i]? with
    | none => exact ok_blank
    | some t => exact h t (List.mem_of_getElem? hi)
  have ga := g 0
  have gb := g 1
  have gc := g 2
  unfold opV
  dsimp only
  generalize vs.getD 0 blankV = a at *
  generalize vs.getD 1 blankV = b at *
  generalize vs.getD 2 blankV = c at *
  by_cases c1 : op = 5
  · rw [if_pos c1]; exact ok_want ga (fun _ => ok_num _)
  rw [if_neg c1]
  by_cases c2 : 7 ≤ op ∧ op ≤ 11
  · rw [if_pos c2]; exact ok_want ga (fun _ => ok_want gb (fun _ => ok_numOp _ _ _))
  rw [if_neg c2]
  by_cases c3 : op = 6
  · rw [if_pos c3]; exact ok_want ga (fun _ => ok_tru _)
  rw [if_neg c3]
  by_cases c4 : op = 16
  · rw [if_pos c4]
    refine ok_want ga (fun _ => ?_)
    split
    · exact ok_want gb (fun _ => gb)
    · exact ga
  rw [if_neg c4]
  by_cases c5 : op = 17
  · rw [if_pos c5]
    refine ok_want ga (fun _ => ?_)
    split
    · exact ga
    · exact ok_want gb (fun _ => gb)
  rw [if_neg c5]
  by_cases c6 : 12 ≤ op ∧ op ≤ 15
  · rw [if_pos c6]; exact ok_cmp _ ga gb
  rw [if_neg c6]
  by_cases c7 : op = 18
  · rw [if_pos c7]
    refine ok_want ga (fun _ => ?_)
    split
    · exact gb
    · exact gc
  rw [if_neg c7]
  by_cases c8 : op = 19
  · rw [if_pos c8]
    refine ok_want ga (fun hk => ⟨by simp [checkB], ?_, ?_⟩)
    · show _ ≤ ((countL a.s : Nat) : Int); omega
    · show ((countL a.s : Nat) : Int) ≤ _; have := (ga.text hk).2.1; omega
  rw [if_neg c8]
  by_cases c9 : op = 20
  · rw [if_pos c9]; exact ok_want ga (fun hk => ok_want gb (fun hk2 => ok_tex (valid_app (ga.text hk).1 (gb.text hk2).1)))
  rw [if_neg c9]
  by_cases c10 : op = 21
  · rw [if_pos c10]
    refine ok_want ga (fun hk => ok_want gb (fun _ => ⟨?_, by show _ ≤ (0 : Int); decide, by show (0 : Int) ≤ _; decide⟩))
    have h1 := ga.text hk
    have h2 := valid_cutL b.n.toNat h1.1
    have h3 := count_cut a.s b.n.toNat
    simp [checkB, h2]
    omega
  rw [if_neg c10]
  by_cases c11 : op = 23
  · rw [if_pos c11]; exact ok_want ga (fun hk => ok_tex (by rw [valid_fold]; exact (ga.text hk).1))
  rw [if_neg c11]
  exact ok_blank
mutual
theorem ok_eval (N : List ByteArray) (V : List Va) (hV : ∀ v ∈ V, -9223372036854775808 ≤ v.n ∧ v.n ≤ 9223372036854775807) : ∀ (e : Ex), allB e = true → fitE e → (evalE N V e).ok
  | .mk op n s ks, h, hf => by
    rw [allB] at h
    rw [fitE] at hf
    simp only [Bool.and_eq_true] at h
    obtain ⟨hp, hk⟩ := h
    unfold partB Ex.op Ex.num Ex.str Ex.kids at hp
    dsimp only at hp
    simp only [Bool.and_eq_true] at hp
    obtain ⟨⟨-, hp⟩, -⟩ := hp
    rw [evalE]
    unfold plainB at hp
    split
    · rename_i c
      rw [if_pos c] at hp
      simp only [Bool.and_eq_true, decide_eq_true_eq] at hp
      exact ⟨by simp [checkB], by show _ ≤ n; omega, hf.1⟩
    rename_i c
    rw [if_neg c] at hp
    split
    · rename_i c
      rw [if_pos c] at hp
      unfold textB at hp
      simp only [Bool.and_eq_true, decide_eq_true_eq] at hp
      exact ⟨by simp [checkB, hp.2.1, hp.2.2], by show _ ≤ (0 : Int); decide, by show (0 : Int) ≤ _; decide⟩
    rename_i c
    rw [if_neg c] at hp
    split
    · rename_i c
      rw [if_pos c] at hp
      simp only [Bool.and_eq_true, decide_eq_true_eq] at hp
      exact ⟨by simp [checkB, hp.1], by show _ ≤ n; omega, hf.1⟩
    split
    · exact ok_name N V _ hV
    split
    · exact ok_tru _
    · exact ok_op _ _ (ok_evalL N V hV ks hk hf.2)
theorem ok_evalL (N : List ByteArray) (V : List Va) (hV : ∀ v ∈ V, -9223372036854775808 ≤ v.n ∧ v.n ≤ 9223372036854775807) : ∀ (es : List Ex), allBL es = true → fitL es → ∀ v ∈ evalL N V es, v.ok
  | [], _, _ => by rw [evalL]; intro v hv; cases hv
  | e :: es, h, hf => by
    rw [allBL] at h
    rw [fitL] at hf
    simp only [Bool.and_eq_true] at h
    rw [evalL]
    intro v hv
    rcases List.mem_cons.1 hv with rfl | hv
    · exact ok_eval N V hV e h.1 hf.1
    · exact ok_evalL N V hV es h.2 hf.2 v hv
end
/-- Of any expression. -/
def evA (N : List ByteArray) (V : List Va) (e : Ex) : Va := if chkB e then evalE N V e else blankV
end Go.Proofs.YtepppianhafdjaaGreatDoor
