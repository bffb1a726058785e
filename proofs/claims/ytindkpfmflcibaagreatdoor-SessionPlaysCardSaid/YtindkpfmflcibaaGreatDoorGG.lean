/- Several texts in one: ParE, ParC. -/
import Derived.Test.YtindkpfmflcibaaGreatDoorGD
namespace Go.Proofs.YtindkpfmflcibaaGreatDoor
/- Plain mathematics: expressions, and how the tokens of a formula are parsed, by a fuel; more fuel turns nothing. No program stands in this text. -/
section

/-- An expression. -/
inductive Ex where
  | mk (op : Int) (n : Int) (s : List UInt8) (ks : List Ex)

/-- What is parsed: nothing yet (no fuel), the byte where it is wrong, or what it says and what is left. -/
abbrev Pr (α : Type) := Option (Except Nat α)
def bnd {α β : Type} (x : Pr α) (f : α → Pr β) : Pr β :=
  match x with
  | none => none
  | some (.error p) => some (.error p)
  | some (.ok a) => f a
theorem bnd_mono {α β : Type} {x y : Pr α} {f g : α → Pr β} (h : ∀ r, x = some r → y = some r) (h2 : ∀ a r, f a = some r → g a = some r) : ∀ r, bnd x f = some r → bnd y g = some r := by
  intro r hr
  cases x with
  | none => cases hr
  | some v =>
    rw [h v rfl]
    cases v with
    | error p => exact hr
    | ok a => exact h2 a r hr
theorem bnd_ok {α β : Type} {x : Pr α} {f : α → Pr β} {a : α} (h : x = some (.ok a)) : bnd x f = f a := by rw [h]; rfl
theorem bnd_err {α β : Type} {x : Pr α} {f : α → Pr β} {p : Nat} (h : x = some (.error p)) : bnd x f = some (.error p) := by rw [h]; rfl

def isS (ts : List Tk) (s : List UInt8) : Bool :=
  match ts with
  | t :: _ => t.k == 4 && t.s == s
  | [] => false
def at0 (ts : List Tk) : Nat :=
  match ts with
  | t :: _ => t.a
  | [] => 0
/-- The operations of a line: which one, and whether its parts are turned round. -/
def opAt (l : Nat) (s : List UInt8) : Option (Nat × Bool) :=
  if l = 0 then (if s = [124] then some (17, false) else none)
  else if l = 1 then (if s = [38] then some (16, false) else none)
  else if l = 2 then (if s = [61] then some (12, false) else if s = [33, 61] then some (13, false) else if s = [60] then some (14, false) else if s = [60, 61] then some (15, false) else if s = [62] then some (14, true) else if s = [62, 61] then some (15, true) else none)
  else if l = 3 then (if s = [43] then some (7, false) else if s = [45] then some (8, false) else none)
  else if l = 4 then (if s = [42] then some (9, false) else if s = [47] then some (10, false) else if s = [37] then some (11, false) else none)
  else none
def opH (l : Nat) (ts : List Tk) : Option (Nat × Bool) :=
  match ts with
  | t :: _ => if t.k = 4 then opAt l t.s else none
  | [] => none
def twoE (op : Nat) (sw : Bool) (a b : Ex) : Ex := .mk op 0 [] (if sw then [b, a] else [a, b])
def oneE (op : Nat) (a : Ex) : Ex := .mk op 0 [] [a]
/-- This sign must come. -/
def mustS (ts : List Tk) (s : List UInt8) : Pr (List Tk) := some (if isS ts s then .ok ts.tail else .error (at0 ts))
abbrev wTrue : List UInt8 := [116, 114, 117, 101]
abbrev wFalse : List UInt8 := [102, 97, 108, 115, 101]
abbrev wIf : List UInt8 := [105, 102]
abbrev wLen : List UInt8 := [108, 101, 110]
abbrev wCat : List UInt8 := [99, 97, 116]
abbrev wCut : List UInt8 := [99, 117, 116]
abbrev wHas : List UInt8 := [104, 97, 115]
abbrev wUp : List UInt8 := [117, 112]
def isWordL (s : List UInt8) : Bool := [wTrue, wFalse, wIf, wLen, wCat, wCut, wHas, wUp].contains s
/-- What is behind 'has'. -/
def pHas (ts : List Tk) : Pr (Ex × List Tk) :=
  bnd (mustS ts [40]) fun r =>
    match r with
    | t :: q => if t.k = 3 ∧ isWordL t.s = false then bnd (mustS q [41]) fun z => some (.ok (oneE 22 (.mk 4 0 t.s []), z)) else some (.error t.a)
    | [] => some (.error 0)

mutual
/-- A line from loose (0) to tight (4), then what has '-' or '!' ahead. -/
def pE : Nat → Nat → List Tk → Pr (Ex × List Tk)
  | 0, _, _ => none
  | f + 1, l, ts => if l < 5 then bnd (pE f (l + 1) ts) fun x => pL f l x.1 x.2 else pU f ts
/-- Behind the first part of a line. -/
def pL : Nat → Nat → Ex → List Tk → Pr (Ex × List Tk)
  | 0, _, _, _ => none
  | f + 1, l, a, ts =>
    match opH l ts with
    | none => some (.ok (a, ts))
    | some o => bnd (pE f (l + 1) ts.tail) fun x => if l = 2 then some (.ok (twoE o.1 o.2 a x.1, x.2)) else pL f l (twoE o.1 o.2 a x.1) x.2
def pU : Nat → List Tk → Pr (Ex × List Tk)
  | 0, _ => none
  | f + 1, ts =>
    if isS ts [45] then bnd (pU f ts.tail) fun x => some (.ok (oneE 5 x.1, x.2))
    else if isS ts [33] then bnd (pU f ts.tail) fun x => some (.ok (oneE 6 x.1, x.2))
    else pA f ts
def pA : Nat → List Tk → Pr (Ex × List Tk)
  | 0, _ => none
  | _ + 1, [] => some (.error 0)
  | f + 1, t :: r =>
    if t.k = 1 then some (.ok (.mk 1 (t.n : Int) [] [], r))
    else if t.k = 2 then some (.ok (.mk 2 0 t.s [], r))
    else if t.k = 3 then pW f t.s r
    else if isS (t :: r) [40] then bnd (pE f 0 r) fun x => bnd (mustS x.2 [41]) fun q => some (.ok (x.1, q))
    else some (.error t.a)
/-- A name, or what begins with a word. -/
def pW : Nat → List UInt8 → List Tk → Pr (Ex × List Tk)
  | 0, _, _ => none
  | f + 1, s, r =>
    if s = wTrue then some (.ok (.mk 3 1 [] [], r))
    else if s = wFalse then some (.ok (.mk 3 0 [] [], r))
    else if s = wIf then pX f 18 3 r
    else if s = wLen then pX f 19 1 r
    else if s = wCat then pX f 20 2 r
    else if s = wCut then pX f 21 2 r
    else if s = wUp then pX f 23 1 r
    else if s = wHas then pHas r
    else some (.ok (.mk 4 0 s [], r))
/-- So many, in brackets. -/
def pX : Nat → Nat → Nat → List Tk → Pr (Ex × List Tk)
  | 0, _, _, _ => none
  | f + 1, op, n, r => bnd (mustS r [40]) fun q => bnd (pK f n true q) fun x => bnd (mustS x.2 [41]) fun z => some (.ok (.mk op 0 [] x.1, z))
/-- So many, with commas between. -/
def pK : Nat → Nat → Bool → List Tk → Pr (List Ex × List Tk)
  | 0, _, _, _ => none
  | _ + 1, 0, _, r => some (.ok ([], r))
  | f + 1, n + 1, first, r => bnd (if first then some (.ok r) else mustS r [44]) fun q => bnd (pE f 0 q) fun x => bnd (pK f n false x.2) fun y => some (.ok (x.1 :: y.1, y.2))
end

/-- More fuel turns nothing. -/
theorem p_mono : ∀ f : Nat,
    (∀ l ts r, pE f l ts = some r → pE (f + 1) l ts = some r) ∧ (∀ l a ts r, pL f l a ts = some r → pL (f + 1) l a ts = some r) ∧ (∀ ts r, pU f ts = some r → pU (f + 1) ts = some r) ∧ (∀ ts r, pA f ts = some r → pA (f + 1) ts = some r)
    ∧ (∀ s ts r, pW f s ts = some r → pW (f + 1) s ts = some r) ∧ (∀ op n ts r, pX f op n ts = some r → pX (f + 1) op n ts = some r) ∧ (∀ n b ts r, pK f n b ts = some r → pK (f + 1) n b ts = some r)
  | 0 => by
    refine ⟨?_, ?_, ?_, ?_, ?_, ?_, ?_⟩
    · intro l ts r h; simp [pE] at h
    · intro l a ts r h; simp [pL] at h
    · intro ts r h; simp [pU] at h
    · intro ts r h; simp [pA] at h
    · intro s ts r h; simp [pW] at h
    · intro op n ts r h; simp [pX] at h
    · intro n b ts r h; simp [pK] at h
  | f + 1 => by
    obtain ⟨hE, hL, hU, hA, hW, hX, hK⟩ := p_mono f
    have same : ∀ {α : Type} (x : Pr α) r, x = some r → x = some r := fun _ _ h => h
    refine ⟨?_, ?_, ?_, ?_, ?_, ?_, ?_⟩
    · intro l ts r h
      rw [pE] at h ⊢
      split at h
      · rename_i c; rw [if_pos c]
        exact bnd_mono (hE _ _) (fun x r => hL _ _ _ r) r h
      · rename_i c; rw [if_neg c]; exact hU _ _ h
    · intro l a ts r h
      rw [pL] at h ⊢
      cases ho : opH l ts with
      | none => rw [ho] at h; exact h
      | some o =>
        rw [ho] at h
        refine bnd_mono (hE _ _) (fun x r hr => ?_) r h
        split at hr
        · rename_i c; rw [if_pos c]; exact hr
        · rename_i c; rw [if_neg c]; exact hL _ _ _ _ hr
    · intro ts r h
      rw [pU] at h ⊢
      split at h
      · rename_i c; rw [if_pos c]; exact bnd_mono (hU _) (fun x r hr => hr) r h
      · rename_i c; rw [if_neg c]
        split at h
        · rename_i c; rw [if_pos c]; exact bnd_mono (hU _) (fun x r hr => hr) r h
        · rename_i c; rw [if_neg c]; exact hA _ _ h
    · intro ts r h
      cases ts with
      | nil => rw [pA] at h ⊢; exact h
      | cons t q =>
        rw [pA] at h ⊢
        split at h
        · rename_i c; rw [if_pos c]; exact h
        · rename_i c; rw [if_neg c]
          split at h
          · rename_i c; rw [if_pos c]; exact h
          · rename_i c; rw [if_neg c]
            split at h
            · rename_i c; rw [if_pos c]; exact hW _ _ _ h
            · rename_i c; rw [if_neg c]
              split at h
              · rename_i c; rw [if_pos c]; exact bnd_mono (hE _ _) (fun x r hr => hr) r h
              · rename_i c; rw [if_neg c]; exact h
    · intro s ts r h
      rw [pW] at h ⊢
      by_cases c_wTrue : s = wTrue
      · rw [if_pos c_wTrue] at h ⊢; exact h
      rw [if_neg c_wTrue] at h ⊢
      by_cases c_wFalse : s = wFalse
      · rw [if_pos c_wFalse] at h ⊢; exact h
      rw [if_neg c_wFalse] at h ⊢
      by_cases c_wIf : s = wIf
      · rw [if_pos c_wIf] at h ⊢; exact hX _ _ _ _ h
      rw [if_neg c_wIf] at h ⊢
      by_cases c_wLen : s = wLen
      · rw [if_pos c_wLen] at h ⊢; exact hX _ _ _ _ h
      rw [if_neg c_wLen] at h ⊢
      by_cases c_wCat : s = wCat
      · rw [if_pos c_wCat] at h ⊢; exact hX _ _ _ _ h
      rw [if_neg c_wCat] at h ⊢
      by_cases c_wCut : s = wCut
      · rw [if_pos c_wCut] at h ⊢; exact hX _ _ _ _ h
      rw [if_neg c_wCut] at h ⊢
      by_cases c_wUp : s = wUp
      · rw [if_pos c_wUp] at h ⊢; exact hX _ _ _ _ h
      rw [if_neg c_wUp] at h ⊢
      by_cases c_wHas : s = wHas
      · rw [if_pos c_wHas] at h ⊢; exact h
      rw [if_neg c_wHas] at h ⊢
      exact h
    · intro op n ts r h
      rw [pX] at h ⊢
      exact bnd_mono (same _) (fun q r => bnd_mono (hK _ _ _) (fun x r hr => hr) r) r h
    · intro n b ts r h
      cases n with
      | zero => rw [pK] at h ⊢; exact h
      | succ n =>
        rw [pK] at h ⊢
        exact bnd_mono (same _) (fun q r => bnd_mono (hE _ _) (fun x r => bnd_mono (hK _ _ _) (fun y r hr => hr) r) r) r h
end
/- Plain mathematics: how many parts an expression has, how deep it is, which parts may be; how an expression is checked, part by part, with room for so many. No program stands in this text. -/
section

mutual
/-- How many parts. -/
def nodes : Ex → Nat
  | .mk _ _ _ ks => nodesL ks + 1
def nodesL : List Ex → Nat
  | [] => 0
  | e :: es => nodes e + nodesL es
end
mutual
/-- How deep: one alone is 1. -/
def deepE : Ex → Nat
  | .mk _ _ _ ks => deepL ks + 1
def deepL : List Ex → Nat
  | [] => 0
  | e :: es => max (deepE e) (deepL es)
end
def Ex.op : Ex → Int
  | .mk op _ _ _ => op
def Ex.num : Ex → Int
  | .mk _ n _ _ => n
def Ex.str : Ex → List UInt8
  | .mk _ _ s _ => s
def Ex.kids : Ex → List Ex
  | .mk _ _ _ ks => ks
/-- How many kids an operation has. -/
def arity (op : Int) : Option Nat :=
  if 1 ≤ op ∧ op ≤ 4 then some 0
  else if op = 5 ∨ op = 6 ∨ op = 19 ∨ op = 22 ∨ op = 23 then some 1
  else if (7 ≤ op ∧ op ≤ 17) ∨ op = 20 ∨ op = 21 then some 2
  else if op = 18 then some 3
  else none
/-- Is this text a name? -/
def nameB (s : List UInt8) : Bool :=
  decide (s.length ≤ 400) && match lexL s with
  | .ok [t] => t.k == 3 && t.s == s && !isWordL s
  | _ => false
/-- May this text be a value? -/
def textB (s : List UInt8) : Bool := validL s && decide (countL s ≤ 100)
/-- The own number and text of a part. -/
def plainB (op n : Int) (s : List UInt8) : Bool :=
  if op = 1 then decide (0 ≤ n) && s.isEmpty
  else if op = 2 then decide (n = 0) && textB s
  else if op = 3 then decide (n = 0 ∨ n = 1) && s.isEmpty
  else if op = 4 then decide (n = 0) && nameB s
  else decide (n = 0) && s.isEmpty
/-- The kid of 'has' is a name. -/
def hasB (op : Int) (ks : List Ex) : Bool := op != 22 || ks.all fun k => k.op == 4
/-- A part may be, its kids' own parts aside. -/
def partB (e : Ex) : Bool := decide (arity e.op = some e.kids.length) && plainB e.op e.num e.str && hasB e.op e.kids
mutual
/-- All parts may be. -/
def allB : Ex → Bool
  | .mk op n s ks => partB (.mk op n s ks) && allBL ks
def allBL : List Ex → Bool
  | [] => true
  | e :: es => allB e && allBL es
end
/-- The expression may be. -/
def chkB (e : Ex) : Bool := decide (nodes e ≤ 128) && decide (deepE e ≤ 24) && allB e

mutual
/-- How many parts there may be behind one, where from it on there may be n. -/
def roomE : Nat → Int → Ex → Int
  | d, n, .mk op m s ks => if n - 1 < 0 ∨ 24 < d ∨ partB (.mk op m s ks) = false then -1 else roomL (d + 1) (n - 1) ks
def roomL : Nat → Int → List Ex → Int
  | _, n, [] => n
  | d, n, e :: es => roomL d (roomE d n e) es
end
theorem nodes_pos (e : Ex) : 0 < nodes e := by cases e; rw [nodes]; omega
theorem deep_pos (e : Ex) : 0 < deepE e := by cases e; rw [deepE]; omega

mutual
theorem roomE_eq : ∀ (e : Ex) (d : Nat) (n : Int), roomE d n e = if (nodes e : Int) ≤ n ∧ d + deepE e ≤ 25 ∧ allB e = true then n - nodes e else -1
  | .mk op m s ks, d, n => by
    rw [roomE, nodes, deepE, allB]
    by_cases h1 : n - 1 < 0
    · rw [if_pos (.inl h1), if_neg (by intro h; have := h.1; omega)]
    by_cases h2 : 24 < d
    · rw [if_pos (.inr (.inl h2)), if_neg (by intro h; have := h.2.1; omega)]
    cases h3 : partB (.mk op m s ks) with
    | false => rw [if_pos (.inr (.inr rfl)), if_neg (by intro h; have := h.2.2; simp at this)]
    | true =>
      rw [if_neg (by rintro (h | h | h); exact h1 h; exact h2 h; cases h), roomL_eq ks (d + 1) (n - 1) (by omega) (by omega)]
      by_cases h4 : (nodesL ks : Int) ≤ n - 1 ∧ d + 1 + deepL ks ≤ 25 ∧ allBL ks = true
      · obtain ⟨a, b, c⟩ := h4
        rw [if_pos ⟨a, b, c⟩, if_pos ⟨by omega, by omega, by rw [c]; rfl⟩]
        omega
      · rw [if_neg h4, if_neg]
        rintro ⟨a, b, c⟩
        exact h4 ⟨by omega, by omega, by simpa using c⟩
theorem roomL_eq : ∀ (es : List Ex) (d : Nat) (n : Int), d ≤ 25 → -1 ≤ n → roomL d n es = if (nodesL es : Int) ≤ n ∧ d + deepL es ≤ 25 ∧ allBL es = true then n - nodesL es else -1
  | [], d, n, hd, hn => by
    rw [roomL, nodesL, deepL, allBL]
    by_cases h : (0 : Int) ≤ n
    · rw [if_pos ⟨by omega, by omega, rfl⟩]; omega
    · rw [if_neg (by intro k; have := k.1; omega)]; omega
  | e :: es, d, n, hd, hn => by
    have hp := nodes_pos e
    rw [roomL, roomE_eq e d n, nodesL, deepL, allBL]
    by_cases h : (nodes e : Int) ≤ n ∧ d + deepE e ≤ 25 ∧ allB e = true
    · obtain ⟨a, b, c⟩ := h
      rw [if_pos ⟨a, b, c⟩, roomL_eq es d _ hd (by omega)]
      by_cases h4 : (nodesL es : Int) ≤ n - nodes e ∧ d + deepL es ≤ 25 ∧ allBL es = true
      · obtain ⟨a2, b2, c2⟩ := h4
        rw [if_pos ⟨a2, b2, c2⟩, if_pos ⟨by omega, by omega, by rw [c, c2]; rfl⟩]
        omega
      · rw [if_neg h4, if_neg]
        rintro ⟨a2, b2, c2⟩
        refine h4 ⟨by omega, by omega, ?_⟩
        rw [c] at c2
        simpa using c2
    · rw [if_neg h, roomL_eq es d (-1) hd (by omega), if_neg (by intro k; have := k.1; omega), if_neg]
      rintro ⟨a, b, c⟩
      refine h ⟨by omega, by omega, ?_⟩
      simp only [Bool.and_eq_true] at c
      exact c.1
end
theorem room_chk (e : Ex) : (0 ≤ roomE 1 128 e) ↔ chkB e = true := by
  rw [roomE_eq]
  unfold chkB
  simp only [Bool.and_eq_true, decide_eq_true_eq]
  have hp := nodes_pos e
  constructor
  · intro h
    by_cases c : (nodes e : Int) ≤ 128 ∧ 1 + deepE e ≤ 25 ∧ allB e = true
    · exact ⟨⟨by omega, by omega⟩, c.2.2⟩
    · rw [if_neg c] at h; omega
  · rintro ⟨⟨h1, h2⟩, h3⟩
    rw [if_pos ⟨by omega, by omega, h3⟩]; omega
theorem roomE_ge (e : Ex) (d : Nat) (n : Int) : -1 ≤ roomE d n e ∧ (0 ≤ n → roomE d n e ≤ n) ∧ roomE d n e ≤ max n (-1) := by
  rw [roomE_eq]
  have hp := nodes_pos e
  split <;> omega
end
end Go.Proofs.YtindkpfmflcibaaGreatDoor
