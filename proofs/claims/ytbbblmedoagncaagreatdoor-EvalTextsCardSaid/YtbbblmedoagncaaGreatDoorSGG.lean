/- ParE, ParR, ParT, ParC, ParL, ParX, ParD -/
import Derived.Test.YtbbblmedoagncaaGreatDoorSGD
namespace Go.Proofs.YtbbblmedoagncaaGreatDoor
section
inductive Ex where
 | mk (op:Int) (n:Int) (s:List UInt8) (ks:List Ex)
abbrev Pr (α:Type):=Option (Except Nat α)
def bnd {α β:Type} (x:Pr α) (f:α→Pr β):Pr β :=
 match x with
 | none=>none
 | some (.error p)=>some (.error p)
 | some (.ok a)=>f a
theorem bnd_mono {α β:Type} {x y:Pr α} {f g:α→Pr β} (h:∀ r,x=some r→y=some r) (h2:∀ a r,f a=some r→g a=some r):∀ r,bnd x f=some r→bnd y g=some r:=by
 intro r hr
 cases x with
 | none=>cases hr
 | some v =>
  rw[h v rfl]
  cases v with
  | error p=>exact hr
  | ok a=>exact h2 a r hr
theorem bnd_ok {α β:Type} {x:Pr α} {f:α→Pr β} {a:α} (h:x=some (.ok a)):bnd x f=f a:=by rw[h];rfl
theorem bnd_err {α β:Type} {x:Pr α} {f:α→Pr β} {p:Nat} (h:x=some (.error p)):bnd x f=some (.error p):=by rw[h];rfl
def isS (ts:List Tk) (s:List UInt8):Bool :=
 match ts with
 | t :: _=>t.k == 4 && t.s == s
 | []=>false
def at0 (ts:List Tk):Nat :=
 match ts with
 | t :: _=>t.a
 | []=>0
def opAt (l:Nat) (s:List UInt8):Option (Nat × Bool) :=
 if l=0 then (if s=[124] then some (17,false) else none)
 else if l=1 then (if s=[38] then some (16,false) else none)
 else if l=2 then (if s=[61] then some (12,false) else if s=[33,61] then some (13,false) else if s=[60] then some (14,false) else if s=[60,61] then some (15,false) else if s=[62] then some (14,true) else if s=[62,61] then some (15,true) else none)
 else if l=3 then (if s=[43] then some (7,false) else if s=[45] then some (8,false) else none)
 else if l=4 then (if s=[42] then some (9,false) else if s=[47] then some (10,false) else if s=[37] then some (11,false) else none)
 else none
def opH (l:Nat) (ts:List Tk):Option (Nat × Bool) :=
 match ts with
 | t :: _=>if t.k=4 then opAt l t.s else none
 | []=>none
def twoE (op:Nat) (sw:Bool) (a b:Ex):Ex:=.mk op 0 [] (if sw then [b,a] else [a,b])
def oneE (op:Nat) (a:Ex):Ex:=.mk op 0 [] [a]
def mustS (ts:List Tk) (s:List UInt8):Pr (List Tk):=some (if isS ts s then .ok ts.tail else .error (at0 ts))
abbrev wTrue:List UInt8:=[116,114,117,101]
abbrev wFalse:List UInt8:=[102,97,108,115,101]
abbrev wIf:List UInt8:=[105,102]
abbrev wLen:List UInt8:=[108,101,110]
abbrev wCat:List UInt8:=[99,97,116]
abbrev wCut:List UInt8:=[99,117,116]
abbrev wHas:List UInt8:=[104,97,115]
abbrev wUp:List UInt8:=[117,112]
def isWordL (s:List UInt8):Bool:=[wTrue,wFalse,wIf,wLen,wCat,wCut,wHas,wUp].contains s
def pHas (ts:List Tk):Pr (Ex × List Tk) :=
 bnd (mustS ts [40]) fun r =>
  match r with
  | t :: q=>if t.k=3∧isWordL t.s=false then bnd (mustS q [41]) fun z=>some (.ok (oneE 22 (.mk 4 0 t.s []),z)) else some (.error t.a)
  | []=>some (.error 0)
mutual
/-- A line from loose (0) to tight (4), then what has '-' or '!' ahead. -/
def pE:Nat→Nat→List Tk→Pr (Ex × List Tk)
 | 0,_,_=>none
 | f+1,l,ts=>if l<5 then bnd (pE f (l+1) ts) fun x=>pL f l x.1 x.2 else pU f ts
/-- Behind the first part of a line. -/
def pL:Nat→Nat→Ex→List Tk→Pr (Ex × List Tk)
 | 0,_,_,_=>none
 | f+1,l,a,ts =>
  match opH l ts with
  | none=>some (.ok (a,ts))
  | some o=>bnd (pE f (l+1) ts.tail) fun x=>if l=2 then some (.ok (twoE o.1 o.2 a x.1,x.2)) else pL f l (twoE o.1 o.2 a x.1) x.2
def pU:Nat→List Tk→Pr (Ex × List Tk)
 | 0,_=>none
 | f+1,ts =>
  if isS ts [45] then bnd (pU f ts.tail) fun x=>some (.ok (oneE 5 x.1,x.2))
  else if isS ts [33] then bnd (pU f ts.tail) fun x=>some (.ok (oneE 6 x.1,x.2))
  else pA f ts
def pA:Nat→List Tk→Pr (Ex × List Tk)
 | 0,_=>none
 | _+1,[]=>some (.error 0)
 | f+1,t :: r =>
  if t.k=1 then some (.ok (.mk 1 (t.n:Int) [] [],r))
  else if t.k=2 then some (.ok (.mk 2 0 t.s [],r))
  else if t.k=3 then pW f t.s r
  else if isS (t :: r) [40] then bnd (pE f 0 r) fun x=>bnd (mustS x.2 [41]) fun q=>some (.ok (x.1,q))
  else some (.error t.a)
/-- A name, or what begins with a word. -/
def pW:Nat→List UInt8→List Tk→Pr (Ex × List Tk)
 | 0,_,_=>none
 | f+1,s,r =>
  if s=wTrue then some (.ok (.mk 3 1 [] [],r))
  else if s=wFalse then some (.ok (.mk 3 0 [] [],r))
  else if s=wIf then pX f 18 3 r
  else if s=wLen then pX f 19 1 r
  else if s=wCat then pX f 20 2 r
  else if s=wCut then pX f 21 2 r
  else if s=wUp then pX f 23 1 r
  else if s=wHas then pHas r
  else some (.ok (.mk 4 0 s [],r))
/-- So many, in brackets. -/
def pX:Nat→Nat→Nat→List Tk→Pr (Ex × List Tk)
 | 0,_,_,_=>none
 | f+1,op,n,r=>bnd (mustS r [40]) fun q=>bnd (pK f n true q) fun x=>bnd (mustS x.2 [41]) fun z=>some (.ok (.mk op 0 [] x.1,z))
/-- So many, with commas between. -/
def pK:Nat→Nat→Bool→List Tk→Pr (List Ex × List Tk)
 | 0,_,_,_=>none
 | _+1,0,_,r=>some (.ok ([],r))
 | f+1,n+1,first,r=>bnd (if first then some (.ok r) else mustS r [44]) fun q=>bnd (pE f 0 q) fun x=>bnd (pK f n false x.2) fun y=>some (.ok (x.1 :: y.1,y.2))
end
theorem p_mono:∀ f:Nat,
  (∀ l ts r,pE f l ts=some r→pE (f+1) l ts=some r)∧(∀ l a ts r,pL f l a ts=some r→pL (f+1) l a ts=some r)∧(∀ ts r,pU f ts=some r→pU (f+1) ts=some r)∧(∀ ts r,pA f ts=some r→pA (f+1) ts=some r)
  ∧ (∀ s ts r,pW f s ts=some r→pW (f+1) s ts=some r)∧(∀ op n ts r,pX f op n ts=some r→pX (f+1) op n ts=some r)∧(∀ n b ts r,pK f n b ts=some r→pK (f+1) n b ts=some r)
 | 0=>by
  refine⟨?_,?_,?_,?_,?_,?_,?_⟩
  ·intro l ts r h;simp[pE] at h
  ·intro l a ts r h;simp[pL] at h
  ·intro ts r h;simp[pU] at h
  ·intro ts r h;simp[pA] at h
  ·intro s ts r h;simp[pW] at h
  ·intro op n ts r h;simp[pX] at h
  ·intro n b ts r h;simp[pK] at h
 | f+1=>by
  obtain⟨hE,hL,hU,hA,hW,hX,hK⟩:=p_mono f
  have same:∀ {α:Type} (x:Pr α) r,x=some r→x=some r:=fun _ _ h=>h
  refine⟨?_,?_,?_,?_,?_,?_,?_⟩
  ·intro l ts r h
   rw[pE] at h ⊢
   split at h
   ·rename_i c;rw[if_pos c]
    exact bnd_mono (hE _ _) (fun x r=>hL _ _ _ r) r h
   ·rename_i c;rw[if_neg c];exact hU _ _ h
  ·intro l a ts r h
   rw[pL] at h ⊢
   cases ho:opH l ts with
   | none=>rw[ho] at h;exact h
   | some o =>
    rw[ho] at h
    refine bnd_mono (hE _ _) (fun x r hr=>?_) r h
    split at hr
    ·rename_i c;rw[if_pos c];exact hr
    ·rename_i c;rw[if_neg c];exact hL _ _ _ _ hr
  ·intro ts r h
   rw[pU] at h ⊢
   split at h
   ·rename_i c;rw[if_pos c];exact bnd_mono (hU _) (fun x r hr=>hr) r h
   ·rename_i c;rw[if_neg c]
    split at h
    ·rename_i c;rw[if_pos c];exact bnd_mono (hU _) (fun x r hr=>hr) r h
    ·rename_i c;rw[if_neg c];exact hA _ _ h
  ·intro ts r h
   cases ts with
   | nil=>rw[pA] at h ⊢;exact h
   | cons t q =>
    rw[pA] at h ⊢
    split at h
    ·rename_i c;rw[if_pos c];exact h
    ·rename_i c;rw[if_neg c]
     split at h
     ·rename_i c;rw[if_pos c];exact h
     ·rename_i c;rw[if_neg c]
      split at h
      ·rename_i c;rw[if_pos c];exact hW _ _ _ h
      ·rename_i c;rw[if_neg c]
       split at h
       ·rename_i c;rw[if_pos c];exact bnd_mono (hE _ _) (fun x r hr=>hr) r h
       ·rename_i c;rw[if_neg c];exact h
  ·intro s ts r h
   rw[pW] at h ⊢
   by_cases c_wTrue:s=wTrue
   ·rw[if_pos c_wTrue] at h ⊢;exact h
   rw[if_neg c_wTrue] at h ⊢
   by_cases c_wFalse:s=wFalse
   ·rw[if_pos c_wFalse] at h ⊢;exact h
   rw[if_neg c_wFalse] at h ⊢
   by_cases c_wIf:s=wIf
   ·rw[if_pos c_wIf] at h ⊢;exact hX _ _ _ _ h
   rw[if_neg c_wIf] at h ⊢
   by_cases c_wLen:s=wLen
   ·rw[if_pos c_wLen] at h ⊢;exact hX _ _ _ _ h
   rw[if_neg c_wLen] at h ⊢
   by_cases c_wCat:s=wCat
   ·rw[if_pos c_wCat] at h ⊢;exact hX _ _ _ _ h
   rw[if_neg c_wCat] at h ⊢
   by_cases c_wCut:s=wCut
   ·rw[if_pos c_wCut] at h ⊢;exact hX _ _ _ _ h
   rw[if_neg c_wCut] at h ⊢
   by_cases c_wUp:s=wUp
   ·rw[if_pos c_wUp] at h ⊢;exact hX _ _ _ _ h
   rw[if_neg c_wUp] at h ⊢
   by_cases c_wHas:s=wHas
   ·rw[if_pos c_wHas] at h ⊢;exact h
   rw[if_neg c_wHas] at h ⊢
   exact h
  ·intro op n ts r h
   rw[pX] at h ⊢
   exact bnd_mono (same _) (fun q r=>bnd_mono (hK _ _ _) (fun x r hr=>hr) r) r h
  ·intro n b ts r h
   cases n with
   | zero=>rw[pK] at h ⊢;exact h
   | succ n =>
    rw[pK] at h ⊢
    exact bnd_mono (same _) (fun q r=>bnd_mono (hE _ _) (fun x r=>bnd_mono (hK _ _ _) (fun y r hr=>hr) r) r) r h
end
section
section
variable {f:Nat}
theorem pE_add {l:Nat} {ts:List Tk} {r:Except Nat (Ex × List Tk)} (h:pE f l ts=some r):∀ k,pE (f+k) l ts=some r
 | 0=>h
 | k+1=>(p_mono (f+k)).1 _ _ _ (pE_add h k)
theorem pL_add {l:Nat} {a:Ex} {ts:List Tk} {r:Except Nat (Ex × List Tk)} (h:pL f l a ts=some r):∀ k,pL (f+k) l a ts=some r
 | 0=>h
 | k+1=>(p_mono (f+k)).2.1 _ _ _ _ (pL_add h k)
theorem pK_add {n:Nat} {b:Bool} {ts:List Tk} {r:Except Nat (List Ex × List Tk)} (h:pK f n b ts=some r):∀ k,pK (f+k) n b ts=some r
 | 0=>h
 | k+1=>(p_mono (f+k)).2.2.2.2.2.2 _ _ _ _ (pK_add h k)
end
def PE (l:Nat) (ts:List Tk) (r:Except Nat (Ex × List Tk)):Prop:=∃ f,pE f l ts=some r
def PL (l:Nat) (a:Ex) (ts:List Tk) (r:Except Nat (Ex × List Tk)):Prop:=∃ f,pL f l a ts=some r
def PU (ts:List Tk) (r:Except Nat (Ex × List Tk)):Prop:=∃ f,pU f ts=some r
def PA (ts:List Tk) (r:Except Nat (Ex × List Tk)):Prop:=∃ f,pA f ts=some r
def PW (s:List UInt8) (ts:List Tk) (r:Except Nat (Ex × List Tk)):Prop:=∃ f,pW f s ts=some r
def PX (op n:Nat) (ts:List Tk) (r:Except Nat (Ex × List Tk)):Prop:=∃ f,pX f op n ts=some r
def PK (n:Nat) (b:Bool) (ts:List Tk) (r:Except Nat (List Ex × List Tk)):Prop:=∃ f,pK f n b ts=some r
theorem PE.one {l:Nat} {ts:List Tk} {r q:Except Nat (Ex × List Tk)} (h:PE l ts r) (k:PE l ts q):r=q:=by
 obtain⟨f,hf⟩:=h
 obtain⟨g,hg⟩:=k
 have h1:=pE_add hf g
 have h2:=pE_add hg f
 rw[Nat.add_comm,h1] at h2
 injection h2
section
variable {l n op:Nat} {a b:Ex} {ts q z:List Tk} {r:Except Nat (Ex × List Tk)} {p:Nat}
theorem PE.up (h5:l<5) (h:PE (l+1) ts (.ok (a,q))) (h2:PL l a q r):PE l ts r:=by
 obtain⟨f,hf⟩:=h
 obtain⟨g,hg⟩:=h2
 refine⟨f+g+1,?_⟩
 rw[pE,if_pos h5,bnd_ok (pE_add hf g),Nat.add_comm]
 exact pL_add hg f
theorem PE.upErr (h5:l<5) (h:PE (l+1) ts (.error p)):PE l ts (.error p):=by
 obtain⟨f,hf⟩:=h
 exact⟨f+1,by rw[pE,if_pos h5,bnd_err hf]⟩
theorem PE.un (h:PU ts r):PE 5 ts r:=by
 obtain⟨f,hf⟩:=h
 exact⟨f+1,by rw[pE,if_neg (by decide)];exact hf⟩
theorem PL.stop (h:opH l ts=none):PL l a ts (.ok (a,ts)):=⟨1,by rw[pL,h]⟩
theorem PL.cmp {o:Nat × Bool} (h:opH 2 ts=some o) (h2:PE 3 ts.tail (.ok (b,q))):PL 2 a ts (.ok (twoE o.1 o.2 a b,q)):=by
 obtain⟨f,hf⟩:=h2
 exact⟨f+1,by rw[pL,h];dsimp only;rw[bnd_ok hf,if_pos rfl]⟩
theorem PL.more {o:Nat × Bool} (h:opH l ts=some o) (hl:l≠2) (h2:PE (l+1) ts.tail (.ok (b,q))) (h3:PL l (twoE o.1 o.2 a b) q r):PL l a ts r:=by
 obtain⟨f,hf⟩:=h2
 obtain⟨g,hg⟩:=h3
 refine⟨f+g+1,?_⟩
 rw[pL,h]
 dsimp only
 rw[bnd_ok (pE_add hf g),if_neg hl,Nat.add_comm]
 exact pL_add hg f
theorem PL.err {o:Nat × Bool} (h:opH l ts=some o) (h2:PE (l+1) ts.tail (.error p)):PL l a ts (.error p):=by
 obtain⟨f,hf⟩:=h2
 exact⟨f+1,by rw[pL,h];dsimp only;rw[bnd_err hf]⟩
theorem PU.neg (h:isS ts [45]=true) (h2:PU ts.tail (.ok (a,q))):PU ts (.ok (oneE 5 a,q)):=by
 obtain⟨f,hf⟩:=h2
 exact⟨f+1,by rw[pU,if_pos h,bnd_ok hf]⟩
theorem PU.not (h0:isS ts [45]=false) (h:isS ts [33]=true) (h2:PU ts.tail (.ok (a,q))):PU ts (.ok (oneE 6 a,q)):=by
 obtain⟨f,hf⟩:=h2
 exact⟨f+1,by rw[pU,if_neg (by rw[h0];decide),if_pos h,bnd_ok hf]⟩
theorem PU.err (h:isS ts [45]=true∨isS ts [33]=true) (h2:PU ts.tail (.error p)):PU ts (.error p):=by
 obtain⟨f,hf⟩:=h2
 refine⟨f+1,?_⟩
 rw[pU]
 by_cases h0:isS ts [45]=true
 ·rw[if_pos h0,bnd_err hf]
 ·rw[if_neg h0,if_pos (h.resolve_left h0),bnd_err hf]
theorem PU.atom (h0:isS ts [45]=false) (h:isS ts [33]=false) (h2:PA ts r):PU ts r:=by
 obtain⟨f,hf⟩:=h2
 exact⟨f+1,by rw[pU,if_neg (by rw[h0];decide),if_neg (by rw[h];decide)];exact hf⟩
theorem PA.num {t:Tk} (h:t.k=1):PA (t :: q) (.ok (.mk 1 (t.n:Int) [] [],q)):=⟨1,by rw[pA,if_pos h]⟩
theorem PA.text {t:Tk} (h:t.k=2):PA (t :: q) (.ok (.mk 2 0 t.s [],q)):=⟨1,by rw[pA,if_neg (by omega),if_pos h]⟩
theorem PA.word {t:Tk} (h:t.k=3) (h2:PW t.s q r):PA (t :: q) r:=by
 obtain⟨f,hf⟩:=h2
 exact⟨f+1,by rw[pA,if_neg (by omega),if_neg (by omega),if_pos h];exact hf⟩
theorem isS_kind {t:Tk} {s:List UInt8} (h:isS (t :: q) s=true):t.k=4∧t.s=s:=by
 simp only[isS,Bool.and_eq_true,beq_iff_eq] at h
 exact h
theorem PA.paren {t:Tk} (h:isS (t :: q) [40]=true) (h2:PE 0 q (.ok (a,z))) (h3:isS z [41]=true):PA (t :: q) (.ok (a,z.tail)):=by
 obtain⟨f,hf⟩:=h2
 have hk:=(isS_kind h).1
 exact⟨f+1,by rw[pA,if_neg (by omega),if_neg (by omega),if_neg (by omega),if_pos h,bnd_ok hf];unfold mustS;rw[if_pos h3];rfl⟩
theorem PA.parenErr {t:Tk} (h:isS (t :: q) [40]=true) (h2:PE 0 q (.error p)):PA (t :: q) (.error p):=by
 obtain⟨f,hf⟩:=h2
 have hk:=(isS_kind h).1
 exact⟨f+1,by rw[pA,if_neg (by omega),if_neg (by omega),if_neg (by omega),if_pos h,bnd_err hf]⟩
theorem PA.parenOpen {t:Tk} (h:isS (t :: q) [40]=true) (h2:PE 0 q (.ok (a,z))) (h3:isS z [41]=false):PA (t :: q) (.error (at0 z)):=by
 obtain⟨f,hf⟩:=h2
 have hk:=(isS_kind h).1
 exact⟨f+1,by rw[pA,if_neg (by omega),if_neg (by omega),if_neg (by omega),if_pos h,bnd_ok hf];unfold mustS;rw[if_neg (by rw[h3];decide)];rfl⟩
theorem PA.wrong {t:Tk} (h1:t.k≠1) (h2:t.k≠2) (h3:t.k≠3) (h:isS (t :: q) [40]=false):PA (t :: q) (.error t.a) :=
 ⟨1,by rw[pA,if_neg h1,if_neg h2,if_neg h3,if_neg (by rw[h];decide)]⟩
theorem PW.true_:PW wTrue q (.ok (.mk 3 1 [] [],q)):=⟨1,by rw[pW,if_pos rfl]⟩
theorem PW.false_:PW wFalse q (.ok (.mk 3 0 [] [],q)):=⟨1,by rw[pW,if_neg (by decide),if_pos rfl]⟩
def callW (s:List UInt8):Option (Nat × Nat):=if s=wIf then some (18,3) else if s=wLen then some (19,1) else if s=wCat then some (20,2) else if s=wCut then some (21,2) else if s=wUp then some (23,1) else none
theorem PW.call {s:List UInt8} {o:Nat × Nat} (h:callW s=some o) (h2:PX o.1 o.2 q r):PW s q r:=by
 obtain⟨f,hf⟩:=h2
 refine⟨f+1,?_⟩
 rw[pW]
 unfold callW at h
 by_cases c1:s=wIf
 ·subst c1
  simp only[if_true] at h
  injection h with h;subst h
  rw[if_neg (by decide),if_neg (by decide),if_pos rfl];exact hf
 by_cases c2:s=wLen
 ·subst c2
  rw[if_neg c1,if_pos rfl] at h
  injection h with h;subst h
  rw[if_neg (by decide),if_neg (by decide),if_neg (by decide),if_pos rfl];exact hf
 by_cases c3:s=wCat
 ·subst c3
  rw[if_neg c1,if_neg c2,if_pos rfl] at h
  injection h with h;subst h
  rw[if_neg (by decide),if_neg (by decide),if_neg (by decide),if_neg (by decide),if_pos rfl];exact hf
 by_cases c4:s=wCut
 ·subst c4
  rw[if_neg c1,if_neg c2,if_neg c3,if_pos rfl] at h
  injection h with h;subst h
  rw[if_neg (by decide),if_neg (by decide),if_neg (by decide),if_neg (by decide),if_neg (by decide),if_pos rfl];exact hf
 by_cases c5:s=wUp
 ·subst c5
  rw[if_neg c1,if_neg c2,if_neg c3,if_neg c4,if_pos rfl] at h
  injection h with h;subst h
  rw[if_neg (by decide),if_neg (by decide),if_neg (by decide),if_neg (by decide),if_neg (by decide),if_neg (by decide),if_pos rfl];exact hf
 rw[if_neg c1,if_neg c2,if_neg c3,if_neg c4,if_neg c5] at h
 cases h
theorem PW.has (h:pHas q=some r):PW wHas q r :=
 ⟨1,by rw[pW,if_neg (by decide),if_neg (by decide),if_neg (by decide),if_neg (by decide),if_neg (by decide),if_neg (by decide),if_neg (by decide),if_pos rfl];exact h⟩
theorem word_not {s:List UInt8} (h:isWordL s=false):s≠wTrue∧s≠wFalse∧s≠wIf∧s≠wLen∧s≠wCat∧s≠wCut∧s≠wHas∧s≠wUp:=by
 refine⟨?_,?_,?_,?_,?_,?_,?_,?_⟩<;>rintro rfl<;>exact absurd h (by decide)
theorem PW.name {s:List UInt8} (h:isWordL s=false):PW s q (.ok (.mk 4 0 s [],q)):=by
 obtain⟨h1,h2,h3,h4,h5,h6,h7,h8⟩:=word_not h
 exact⟨1,by rw[pW,if_neg h1,if_neg h2,if_neg h3,if_neg h4,if_neg h5,if_neg h6,if_neg h8,if_neg h7]⟩
theorem PX.open_ (h:isS q [40]=false):PX op n q (.error (at0 q)):=⟨1,by rw[pX];unfold mustS;rw[if_neg (by rw[h];decide)];rfl⟩
theorem PX.err (h:isS q [40]=true) (h2:PK n true q.tail (.error p)):PX op n q (.error p):=by
 obtain⟨f,hf⟩:=h2
 exact⟨f+1,by rw[pX];unfold mustS;rw[if_pos h,bnd_ok (a:=q.tail) rfl,bnd_err hf]⟩
theorem PX.close {es:List Ex} (h:isS q [40]=true) (h2:PK n true q.tail (.ok (es,z))) (h3:isS z [41]=false):PX op n q (.error (at0 z)):=by
 obtain⟨f,hf⟩:=h2
 exact⟨f+1,by rw[pX];unfold mustS;rw[if_pos h,bnd_ok (a:=q.tail) rfl,bnd_ok hf];dsimp only;rw[if_neg (by rw[h3];decide)];rfl⟩
theorem PX.ok {es:List Ex} (h:isS q [40]=true) (h2:PK n true q.tail (.ok (es,z))) (h3:isS z [41]=true):PX op n q (.ok (.mk op 0 [] es,z.tail)):=by
 obtain⟨f,hf⟩:=h2
 exact⟨f+1,by rw[pX];unfold mustS;rw[if_pos h,bnd_ok (a:=q.tail) rfl,bnd_ok hf];dsimp only;rw[if_pos h3];rfl⟩
theorem PK.zero {b:Bool}:PK 0 b q (.ok ([],q)):=⟨1,by rw[pK]⟩
theorem PK.comma (h:isS q [44]=false):PK (n+1) false q (.error (at0 q)):=⟨1,by rw[pK];simp only[Bool.false_eq_true,if_false];unfold mustS;rw[if_neg (by rw[h];decide)];rfl⟩
def Sep (b:Bool) (q z:List Tk):Prop:=(b=true∧z=q)∨(b=false∧isS q [44]=true∧z=q.tail)
theorem sep_run {b:Bool} (h:Sep b q z):(if b then some (.ok q) else mustS q [44]:Pr (List Tk))=some (.ok z):=by
 rcases h with ⟨rfl,rfl⟩ | ⟨rfl,h,rfl⟩
 ·rfl
 ·simp only[Bool.false_eq_true,if_false];unfold mustS;rw[if_pos h]
theorem PK.err1 {b:Bool} (h:Sep b q z) (h2:PE 0 z (.error p)):PK (n+1) b q (.error p):=by
 obtain⟨f,hf⟩:=h2
 exact⟨f+1,by rw[pK,bnd_ok (sep_run h),bnd_err hf]⟩
theorem PK.err2 {b:Bool} {y:List Tk} (h:Sep b q z) (h2:PE 0 z (.ok (a,y))) (h3:PK n false y (.error p)):PK (n+1) b q (.error p):=by
 obtain⟨f,hf⟩:=h2
 obtain⟨g,hg⟩:=h3
 refine⟨f+g+1,?_⟩
 rw[pK,bnd_ok (sep_run h),bnd_ok (pE_add hf g),Nat.add_comm,bnd_err (pK_add hg f)]
theorem PK.next {b:Bool} {y x:List Tk} {es:List Ex} (h:Sep b q z) (h2:PE 0 z (.ok (a,y))) (h3:PK n false y (.ok (es,x))):PK (n+1) b q (.ok (a :: es,x)):=by
 obtain⟨f,hf⟩:=h2
 obtain⟨g,hg⟩:=h3
 refine⟨f+g+1,?_⟩
 rw[pK,bnd_ok (sep_run h),bnd_ok (pE_add hf g),Nat.add_comm,bnd_ok (pK_add hg f)]
end
end
section
abbrev Key:=Nat × List UInt8 × Nat
def key (t:Tk):Key:=(t.k,t.s,t.n)
abbrev sgK (s:List UInt8):Key:=(4,s,0)
abbrev nmK (s:List UInt8):Key:=(3,s,0)
def opSign (op:Nat):Option (Nat × List UInt8) :=
 if op=7 then some (3,[43]) else if op=8 then some (3,[45]) else if op=9 then some (4,[42]) else if op=10 then some (4,[47]) else if op=11 then some (4,[37])
 else if op=12 then some (2,[61]) else if op=13 then some (2,[33,61]) else if op=14 then some (2,[60]) else if op=15 then some (2,[60,61]) else if op=16 then some (1,[38]) else if op=17 then some (0,[124]) else none
inductive Wr:Ex→List Key→Prop
 | num (n:Nat):Wr (.mk 1 (n:Int) [] []) [(1,[],n)]
 | text (s:List UInt8):Wr (.mk 2 0 s []) [(2,s,0)]
 | tru:Wr (.mk 3 1 [] []) [nmK wTrue]
 | fls:Wr (.mk 3 0 [] []) [nmK wFalse]
 | name (s:List UInt8) (h:isWordL s=false):Wr (.mk 4 0 s []) [nmK s]
 | neg {a:Ex} {ks:List Key} (h:Wr a ks):Wr (oneE 5 a) (sgK [45] :: ks)
 | not {a:Ex} {ks:List Key} (h:Wr a ks):Wr (oneE 6 a) (sgK [33] :: ks)
 | two {op l:Nat} {s:List UInt8} {a b:Ex} {ks ms:List Key} (h:opSign op=some (l,s)) (ha:Wr a ks) (hb:Wr b ms):Wr (.mk op 0 [] [a,b]) (sgK [40] :: (ks++(sgK s :: (ms++[sgK [41]]))))
 | call1 {op:Nat} {w:List UInt8} {a:Ex} {ks:List Key} (h:callW w=some (op,1)) (ha:Wr a ks):Wr (.mk op 0 [] [a]) (nmK w :: sgK [40] :: (ks++[sgK [41]]))
 | call2 {op:Nat} {w:List UInt8} {a b:Ex} {ks ms:List Key} (h:callW w=some (op,2)) (ha:Wr a ks) (hb:Wr b ms):Wr (.mk op 0 [] [a,b]) (nmK w :: sgK [40] :: (ks++(sgK [44] :: (ms++[sgK [41]]))))
 | call3 {op:Nat} {w:List UInt8} {a b c:Ex} {ks ms ns:List Key} (h:callW w=some (op,3)) (ha:Wr a ks) (hb:Wr b ms) (hc:Wr c ns):Wr (.mk op 0 [] [a,b,c]) (nmK w :: sgK [40] :: (ks++(sgK [44] :: (ms++(sgK [44] :: (ns++[sgK [41]]))))))
 | has (s:List UInt8) (h:isWordL s=false):Wr (oneE 22 (.mk 4 0 s [])) [nmK wHas,sgK [40],nmK s,sgK [41]]
end
section
mutual
/-- How many parts. -/
def nodes:Ex→Nat
 | .mk _ _ _ ks=>nodesL ks+1
def nodesL:List Ex→Nat
 | []=>0
 | e :: es=>nodes e+nodesL es
end
mutual
/-- How deep: one alone is 1. -/
def deepE:Ex→Nat
 | .mk _ _ _ ks=>deepL ks+1
def deepL:List Ex→Nat
 | []=>0
 | e :: es=>max (deepE e) (deepL es)
end
def Ex.op:Ex→Int
 | .mk op _ _ _=>op
def Ex.num:Ex→Int
 | .mk _ n _ _=>n
def Ex.str:Ex→List UInt8
 | .mk _ _ s _=>s
def Ex.kids:Ex→List Ex
 | .mk _ _ _ ks=>ks
def arity (op:Int):Option Nat :=
 if 1≤op∧op≤4 then some 0
 else if op=5∨op=6∨op=19∨op=22∨op=23 then some 1
 else if (7≤op∧op≤17)∨op=20∨op=21 then some 2
 else if op=18 then some 3
 else none
def nameB (s:List UInt8):Bool :=
 decide (s.length≤400) && match lexL s with
 | .ok [t]=>t.k == 3 && t.s == s && !isWordL s
 | _=>false
def textB (s:List UInt8):Bool:=validL s && decide (countL s≤100)
def plainB (op n:Int) (s:List UInt8):Bool :=
 if op=1 then decide (0≤n) && s.isEmpty
 else if op=2 then decide (n=0) && textB s
 else if op=3 then decide (n=0∨n=1) && s.isEmpty
 else if op=4 then decide (n=0) && nameB s
 else decide (n=0) && s.isEmpty
def hasB (op:Int) (ks:List Ex):Bool:=op != 22 || ks.all fun k=>k.op == 4
def partB (e:Ex):Bool:=decide (arity e.op=some e.kids.length) && plainB e.op e.num e.str && hasB e.op e.kids
mutual
/-- All parts may be. -/
def allB:Ex→Bool
 | .mk op n s ks=>partB (.mk op n s ks) && allBL ks
def allBL:List Ex→Bool
 | []=>true
 | e :: es=>allB e && allBL es
end
def chkB (e:Ex):Bool:=decide (nodes e≤128) && decide (deepE e≤24) && allB e
mutual
/-- How many parts there may be behind one, where from it on there may be n. -/
def roomE:Nat→Int→Ex→Int
 | d,n,.mk op m s ks=>if n - 1<0∨24<d∨partB (.mk op m s ks)=false then -1 else roomL (d+1) (n - 1) ks
def roomL:Nat→Int→List Ex→Int
 | _,n,[]=>n
 | d,n,e :: es=>roomL d (roomE d n e) es
end
theorem nodes_pos (e:Ex):0<nodes e:=by cases e;rw[nodes];omega
mutual
theorem roomE_eq:∀ (e:Ex) (d:Nat) (n:Int),roomE d n e=if (nodes e:Int)≤n∧d+deepE e≤25∧allB e=true then n - nodes e else -1
 | .mk op m s ks,d,n=>by
  rw[roomE,nodes,deepE,allB]
  by_cases h1:n - 1<0
  ·rw[if_pos (.inl h1),if_neg (by intro h;have:=h.1;omega)]
  by_cases h2:24<d
  ·rw[if_pos (.inr (.inl h2)),if_neg (by intro h;have:=h.2.1;omega)]
  cases h3:partB (.mk op m s ks) with
  | false=>rw[if_pos (.inr (.inr rfl)),if_neg (by intro h;have:=h.2.2;simp at this)]
  | true =>
   rw[if_neg (by rintro (h | h | h);exact h1 h;exact h2 h;cases h),roomL_eq ks (d+1) (n - 1) (by omega) (by omega)]
   by_cases h4:(nodesL ks:Int)≤n - 1∧d+1+deepL ks≤25∧allBL ks=true
   ·obtain⟨a,b,c⟩:=h4
    rw[if_pos ⟨a,b,c⟩,if_pos ⟨by omega,by omega,by rw[c];rfl⟩]
    omega
   ·rw[if_neg h4,if_neg]
    rintro⟨a,b,c⟩
    exact h4 ⟨by omega,by omega,by simpa using c⟩
theorem roomL_eq:∀ (es:List Ex) (d:Nat) (n:Int),d≤25→-1≤n→roomL d n es=if (nodesL es:Int)≤n∧d+deepL es≤25∧allBL es=true then n - nodesL es else -1
 | [],d,n,hd,hn=>by
  rw[roomL,nodesL,deepL,allBL]
  by_cases h:(0:Int)≤n
  ·rw[if_pos ⟨by omega,by omega,rfl⟩];omega
  ·rw[if_neg (by intro k;have:=k.1;omega)];omega
 | e :: es,d,n,hd,hn=>by
  have hp:=nodes_pos e
  rw[roomL,roomE_eq e d n,nodesL,deepL,allBL]
  by_cases h:(nodes e:Int)≤n∧d+deepE e≤25∧allB e=true
  ·obtain⟨a,b,c⟩:=h
   rw[if_pos ⟨a,b,c⟩,roomL_eq es d _ hd (by omega)]
   by_cases h4:(nodesL es:Int)≤n - nodes e∧d+deepL es≤25∧allBL es=true
   ·obtain⟨a2,b2,c2⟩:=h4
    rw[if_pos ⟨a2,b2,c2⟩,if_pos ⟨by omega,by omega,by rw[c,c2];rfl⟩]
    omega
   ·rw[if_neg h4,if_neg]
    rintro⟨a2,b2,c2⟩
    refine h4 ⟨by omega,by omega,?_⟩
    rw[c] at c2
    simpa using c2
  ·rw[if_neg h,roomL_eq es d (-1) hd (by omega),if_neg (by intro k;have:=k.1;omega),if_neg]
   rintro⟨a,b,c⟩
   refine h ⟨by omega,by omega,?_⟩
   simp only[Bool.and_eq_true] at c
   exact c.1
end
theorem room_chk (e:Ex):(0≤roomE 1 128 e)↔chkB e=true:=by
 rw[roomE_eq]
 unfold chkB
 simp only[Bool.and_eq_true,decide_eq_true_eq]
 have hp:=nodes_pos e
 constructor
 ·intro h
  by_cases c:(nodes e:Int)≤128∧1+deepE e≤25∧allB e=true
  ·exact⟨⟨by omega,by omega⟩,c.2.2⟩
  ·rw[if_neg c] at h;omega
 ·rintro⟨⟨h1,h2⟩,h3⟩
  rw[if_pos ⟨by omega,by omega,h3⟩];omega
theorem roomE_ge (e:Ex) (d:Nat) (n:Int):-1≤roomE d n e∧(0≤n→roomE d n e≤n)∧roomE d n e≤max n (-1):=by
 rw[roomE_eq]
 have hp:=nodes_pos e
 split<;>omega
end
section
open Go.Lib
def Stop (y:Pc):Prop:=isDig y=false∧isWord y=false∧y.1≠61
theorem numF_stop {y:Pc} (hy:Stop y) (x:Pc) (R Q:List Pc):numF x (R++y :: Q)=numF x R:=by
 unfold numF;rw[takeWhile_stop _ hy.1]
theorem nameF_stop {y:Pc} (hy:Stop y) (x:Pc) (R Q:List Pc):nameF x (R++y :: Q)=nameF x R:=by
 unfold nameF;rw[takeWhile_stop _ hy.2.1]
theorem tokF_stop {y:Pc} (hy:Stop y) {x:Pc} {R:List Pc} (Q:List Pc) {f:Fd} (h:tokF x R=some f):tokF x (R++y :: Q)=some f:=by
 unfold tokF at h ⊢
 split at h
 ·rename_i c;rw[if_pos c,numF_stop hy];exact h
 ·rename_i c;rw[if_neg c]
  split at h
  ·rename_i c;rw[if_pos c,nameF_stop hy];exact h
  ·rename_i c;rw[if_neg c]
   split at h
   ·rename_i c;rw[if_pos c];exact textT_app _ h
   ·rename_i c;rw[if_neg c,signF_app hy.2.2];exact h
theorem lexR_stop {y:Pc} (hy:Stop y) (Q:List Pc):∀ (n:Nat) (R:List Pc) (p:Nat) (ts:List Tk),R.length≤n→lexR R p=.ok ts→lexR (R++y :: Q) p=ahead ts (lexR (y :: Q) (p+(flat R).length))
 | n,[],p,ts,_,h=>by
  rw[lexR_nil] at h
  injection h with h
  subst h
  rw[ahead_nil,flat_nil];rfl
 | 0,x :: R,p,ts,hl,_=>by simp at hl
 | n+1,x :: R,p,ts,hl,h=>by
  simp only[List.length_cons] at hl
  rw[List.cons_append,flat_cons,List.length_append]
  by_cases hc:classZ (x.1:Int)=3
  ·rw[lexR_blank _ _ _ hc] at h ⊢
   rw[lexR_stop hy Q n R _ ts (by omega) h,Nat.add_assoc]
  ·cases ht:tokF x R with
   | none=>rw[lexR_none _ _ _ hc ht] at h;cases h
   | some f =>
    have hj:=tokF_len ht
    rw[lexR_some _ _ _ hc f ht] at h
    cases hr:lexR (R.drop f.j) (p+(flat (x :: R.take f.j)).length) with
    | error q=>rw[hr] at h;cases h
    | ok us =>
     rw[hr] at h
     have e:[f.tk p]++us=ts:=by injection h
     rw[lexR_some _ _ _ hc f (tokF_stop hy Q ht),List.drop_append_of_le_length hj,List.take_append_of_le_length hj,lexR_stop hy Q n (R.drop f.j) _ us (by rw[List.length_drop];omega) hr,ahead_ahead,e]
     congr 2
     rw[Nat.add_assoc]
     congr 1
     have e2:=congrArg List.length (flat_take_drop R f.j)
     rw[List.length_append] at e2
     rw[flat_cons,List.length_append];omega
def StopB (c:UInt8):Prop:=c.toNat<128∧Stop (c.toNat,[c])
theorem stop_32:StopB 32:=⟨by decide,by decide +kernel,by decide +kernel,by decide⟩
theorem stop_41:StopB 41:=⟨by decide,by decide +kernel,by decide +kernel,by decide⟩
theorem stop_40:StopB 40:=⟨by decide,by decide +kernel,by decide +kernel,by decide⟩
theorem stop_44:StopB 44:=⟨by decide,by decide +kernel,by decide +kernel,by decide⟩
theorem lexL_then {a:List UInt8} {ts:List Tk} (h:lexL a=.ok ts) {c:UInt8} (hc:StopB c) (b:List UInt8):lexL (a++c :: b)=ahead ts (shE a.length (lexL (c :: b))):=by
 unfold lexL at h ⊢
 rw[pcs_append a (c :: b) (lexL_valid h),pcs_asc c b hc.1,lexR_stop hc.2 _ _ _ _ _ (Nat.le_refl _) h,flat_pcs]
 have:=lexR_sh a.length _ ((c.toNat,[c]) :: pcs b) 0 (Nat.le_refl _)
 rw[← this]
def Lx (l:List UInt8) (ks:List Key):Prop:=∃ ts,lexL l=.ok ts∧ts.map key=ks
theorem key_sh (d:Nat) (ts:List Tk):(ts.map (Tk.sh d)).map key=ts.map key:=by
 rw[List.map_map];rfl
theorem Lx.then {a b:List UInt8} {c:UInt8} {ks ms:List Key} (h:Lx a ks) (hc:StopB c) (h2:Lx (c :: b) ms):Lx (a++c :: b) (ks++ms):=by
 obtain⟨ts,h3,rfl⟩:=h
 obtain⟨us,h4,rfl⟩:=h2
 refine⟨ts++us.map (Tk.sh a.length),?_,?_⟩
 ·rw[lexL_then h3 hc b,h4];rfl
 ·rw[List.map_append,key_sh]
theorem Lx.nil:Lx [] []:=⟨[],lexL_nil,rfl⟩
theorem Lx.blank {b:List UInt8} {ms:List Key} (h:Lx b ms):Lx (32 :: b) ms:=by
 obtain⟨ts,h1,rfl⟩:=h
 refine⟨ts.map (Tk.sh 1),?_,key_sh 1 ts⟩
 have:=lexL_app lexL_nil (c:=32) (.inl rfl) b
 rw[List.nil_append,ahead_nil,h1] at this
 exact this
theorem sign_not {c:UInt8} (h:isSign c.toNat=true):classZ (c.toNat:Int)≠3∧classZ (c.toNat:Int)≠2∧classZ (c.toNat:Int)≠1∧c.toNat≠34∧c.toNat<128:=by
 have h0:c.toNat ∈ [43,45,42,47,37,40,41,44,61,60,62,38,124,33]:=by simpa[isSign] using h
 have hall:∀ n ∈ [43,45,42,47,37,40,41,44,61,60,62,38,124,33],classZ ((n:Nat):Int)≠3∧classZ ((n:Nat):Int)≠2∧classZ ((n:Nat):Int)≠1∧n≠34∧n<128:=by decide +kernel
 exact hall _ h0
theorem head_61 {b:List UInt8} (h:b.head?≠some 61):¬ ((pcs b).head?.map (·.1)=some 61):=by
 cases hb:pcs b with
 | nil=>simp
 | cons x R =>
  intro e
  simp only[List.head?_cons,Option.map_some,Option.some.injEq] at e
  obtain⟨c,r,rfl,⟨h1,h2,-,-⟩ | ⟨h1,h2⟩⟩:=head_byte hb
  ·apply h
   have:c.toNat=61:=by omega
   rw[List.head?_cons]
   congr 1
   exact UInt8.toNat_inj.1 this
  ·omega
theorem lexL_sign {c:UInt8} (hc:isSign c.toNat=true) {b:List UInt8} (hb:isTwo c.toNat=true→b.head?≠some 61):lexL (c :: b)=ahead [⟨4,[c],0,0⟩] (shE 1 (lexL b)):=by
 obtain⟨h3,h2,h1,h34,hlt⟩:=sign_not hc
 unfold lexL
 rw[pcs_asc c b hlt]
 have ht:tokF (c.toNat,[c]) (pcs b)=some ⟨4,[c],0,0⟩:=by
  unfold tokF
  rw[if_neg h2,if_neg h1,if_neg h34]
  unfold signF
  dsimp only
  rw[if_pos hc,if_neg (fun h=>head_61 (hb h.1) h.2),UInt8.ofNat_toNat]
 rw[lexR_some _ _ _ h3 _ ht]
 dsimp only
 rw[List.drop_zero,List.take_zero,flat_cons,flat_nil,List.append_nil]
 have:=lexR_sh 1 _ (pcs b) 0 (Nat.le_refl _)
 rw[← this]
 rfl
theorem Lx.sign {c:UInt8} (hc:isSign c.toNat=true) {b:List UInt8} (hb:isTwo c.toNat=true→b.head?≠some 61) {ms:List Key} (h:Lx b ms):Lx (c :: b) (sgK [c] :: ms):=by
 obtain⟨ts,h1,rfl⟩:=h
 refine⟨⟨4,[c],0,0⟩ :: ts.map (Tk.sh 1),?_,?_⟩
 ·rw[lexL_sign hc hb,h1];rfl
 ·rw[List.map_cons,key_sh];rfl
theorem Lx.two {c:UInt8} (hc:c=33∨c=60∨c=62) {b:List UInt8} {ms:List Key} (h:Lx b ms):Lx (c :: 61 :: b) (sgK [c,61] :: ms):=by
 obtain⟨ts,h1,rfl⟩:=h
 refine⟨⟨4,[c,61],0,0⟩ :: ts.map (Tk.sh 2),?_,?_⟩
 ·have hS:isSign c.toNat=true∧isTwo c.toNat=true:=by rcases hc with rfl | rfl | rfl<;>decide
  obtain⟨h3,h2,h1',h34,hlt⟩:=sign_not hS.1
  have e61:pcs (61 :: b)=(61,[61]) :: pcs b:=pcs_asc 61 b (by decide)
  unfold lexL
  rw[pcs_asc c _ hlt,e61]
  have ht:tokF (c.toNat,[c]) ((61,[61]) :: pcs b)=some ⟨4,[c,61],0,1⟩:=by
   unfold tokF
   rw[if_neg h2,if_neg h1',if_neg h34]
   unfold signF
   dsimp only
   rw[if_pos hS.1,if_pos ⟨hS.2,rfl⟩,UInt8.ofNat_toNat]
  rw[lexR_some _ _ _ h3 _ ht]
  dsimp only
  rw[List.drop_succ_cons,List.drop_zero,List.take_succ_cons,List.take_zero,flat_cons,flat_cons,flat_nil,List.append_nil]
  have:=lexR_sh 2 _ (pcs b) 0 (Nat.le_refl _)
  unfold lexL at h1
  rw[h1] at this
  show ahead _ (lexR (pcs b) (0+2))=_
  rw[this]
  rfl
 ·rw[List.map_cons,key_sh];rfl
theorem Lx.quote {l:List UInt8} (h:textB l=true):Lx (quoteL l) [(2,l,0)]:=by
 unfold textB at h
 simp only[Bool.and_eq_true,decide_eq_true_eq] at h
 exact⟨_,lexL_quote h.1 h.2,rfl⟩
theorem Lx.name {l:List UInt8} (h:nameB l=true):Lx l [nmK l]:=by
 unfold nameB at h
 rw[Bool.and_eq_true] at h
 replace h:=h.2
 cases hl:lexL l with
 | error p=>rw[hl] at h;cases h
 | ok ts =>
  rw[hl] at h
  match ts,h with
  | [t],h =>
   simp only[Bool.and_eq_true,beq_iff_eq,Bool.not_eq_true'] at h
   obtain⟨⟨h1,h2⟩,-⟩:=h
   refine⟨[t],hl,?_⟩
   have hn:t.n=0:=by
    have hl':=hl
    unfold lexL at hl'
     -- the first piece that is no blank
    have key0:∀ (n:Nat) (R:List Pc) (p:Nat) (us:List Tk),R.length≤n→lexR R p=.ok us→∀ u ∈ us,u.k=3→u.n=0:=by
     intro n
     induction n with
     | zero =>
      intro R p us hR hus u hu hk
      have:R=[]:=List.length_eq_zero_iff.1 (by omega)
      subst this
      rw[lexR_nil] at hus
      injection hus with hus;subst hus;cases hu
     | succ n ih =>
      intro R p us hR hus u hu hk
      cases R with
      | nil=>rw[lexR_nil] at hus;injection hus with hus;subst hus;cases hu
      | cons x R =>
       simp only[List.length_cons] at hR
       by_cases hc:classZ (x.1:Int)=3
       ·rw[lexR_blank _ _ _ hc] at hus
        exact ih R _ us (by omega) hus u hu hk
       ·cases ht:tokF x R with
        | none=>rw[lexR_none _ _ _ hc ht] at hus;cases hus
        | some f =>
         rw[lexR_some _ _ _ hc f ht] at hus
         cases hr:lexR (R.drop f.j) (p+(flat (x :: R.take f.j)).length) with
         | error q=>rw[hr] at hus;cases hus
         | ok vs =>
          rw[hr] at hus
          have e:[f.tk p]++vs=us:=by injection hus
          subst e
          rcases List.mem_append.1 hu with hu | hu
          ·simp only[List.mem_singleton] at hu
           subst hu
           have hk':f.k=3:=hk
           show f.n=0
           unfold tokF at ht
           split at ht
           ·unfold numF at ht
            split at ht
            ·injection ht with ht;subst ht;cases hk'
            ·cases ht
           ·split at ht
            ·unfold nameF at ht
             split at ht
             ·injection ht with ht;subst ht;rfl
             ·cases ht
            ·split at ht
             ·unfold textT at ht
              split at ht
              ·cases ht
              ·split at ht
               ·injection ht with ht;subst ht;cases hk'
               ·cases ht
             ·unfold signF at ht
              split at ht
              ·split at ht
               ·injection ht with ht;subst ht;cases hk'
               ·injection ht with ht;subst ht;cases hk'
              ·cases ht
          ·exact ih _ _ vs (by rw[List.length_drop];omega) hr u hu hk
    exact key0 _ _ 0 [t] (Nat.le_refl _) hl' t (by simp) h1
   simp only[List.map_cons,List.map_nil,key,h1,h2,hn]
theorem nameB_word {l:List UInt8} (h:nameB l=true):isWordL l=false:=by
 unfold nameB at h
 rw[Bool.and_eq_true] at h
 replace h:=h.2
 split at h
 ·simp only[Bool.and_eq_true,Bool.not_eq_true'] at h;exact h.2
 ·cases h
theorem digs_pcs:∀ (l:List UInt8),(∀ b ∈ l,48≤b.toNat∧b.toNat≤57)→pcs l=l.map (fun b=>(b.toNat,[b]))∧∀ x ∈ l.map (fun b=>((b.toNat,[b]):Pc)),isDig x=true
 | [],_=>⟨pcs_nil,fun _ h=>by cases h⟩
 | c :: l,h=>by
  obtain⟨h1,h2⟩:=digs_pcs l (fun b hb=>h b (by simp[hb]))
  have hc:=h c (by simp)
  refine⟨by rw[pcs_asc c l (by omega),h1];rfl,fun x hx=>?_⟩
  rcases List.mem_cons.1 hx with rfl | hx
  ·unfold isDig
   exact decide_eq_true (class_2 ⟨by dsimp only;omega,by dsimp only;omega⟩)
  ·exact h2 x hx
theorem lexL_digs (l:List UInt8) (hne:l≠[]) (hd:∀ b ∈ l,48≤b.toNat∧b.toNat≤57) (hv:valN l<9223372036854775808):lexL l=.ok [⟨1,[],valN l,0⟩]:=by
 obtain⟨hp,hD⟩:=digs_pcs l hd
 unfold lexL
 cases l with
 | nil=>exact absurd rfl hne
 | cons c r =>
  obtain⟨hp2,hD2⟩:=digs_pcs r (fun b hb=>hd b (by simp[hb]))
  have hc:=hd c (by simp)
  have ec:classZ ((c.toNat:Nat):Int)=2:=class_2 ⟨by omega,by omega⟩
  rw[pcs_asc c r (by omega)]
  have htw:(pcs r).takeWhile isDig=pcs r:=by
   rw[hp2]
   have:=List.takeWhile_append_of_pos (p:=isDig) (l₁:=r.map fun b=>((b.toNat,[b]):Pc)) (l₂:=[]) hD2
   simpa using this
  have hf:flat ((c.toNat,[c]) :: pcs r)=c :: r:=by rw[flat_cons,flat_pcs];rfl
  have ht:tokF (c.toNat,[c]) (pcs r)=some ⟨1,[],valN (c :: r),(pcs r).length⟩:=by
   unfold tokF
   rw[if_pos ec]
   unfold numF
   rw[htw,hf,if_pos hv]
  rw[lexR_some _ _ _ (by dsimp only;rw[ec];decide) _ ht]
  dsimp only
  rw[List.drop_length,lexR_nil]
  rfl
theorem itoa_val (n:Int) (h0:0≤n) (h1:n≤9223372036854775807):itoa n≠[]∧(∀ b ∈ itoa n,48≤b.toNat∧b.toNat≤57)∧valN (itoa n)=n.toNat:=by
 obtain⟨c,r,hc,-⟩:=itoa_head n
 have hne:itoa n≠[]:=by rw[hc];simp
 have hd:∀ b ∈ itoa n,48≤b.toNat∧b.toNat≤57:=by
  unfold itoa;rw[if_neg (by omega)];exact decDigits_digit _
 have hp:=parse_itoa n (by omega) h1
 obtain⟨k1,k2⟩:=parse_digs (itoa n) hne hd
 refine⟨hne,hd,?_⟩
 by_cases hv:valN (itoa n)<9223372036854775808
 ·have:=k1 hv
  rw[hp] at this
  injection this with this
  omega
 ·exact absurd hp (k2 (by omega) n)
theorem Lx.num (n:Int) (h0:0≤n) (h1:n≤9223372036854775807):Lx (itoa n) [(1,[],n.toNat)]:=by
 obtain⟨a,b,c⟩:=itoa_val n h0 h1
 exact⟨_,lexL_digs _ a b (by omega),by rw[c];rfl⟩
theorem lets_pcs:∀ (l:List UInt8),(∀ b ∈ l,b.toNat<128∧classZ (b.toNat:Int)=1)→pcs l=l.map (fun b=>(b.toNat,[b]))∧∀ x ∈ l.map (fun b=>((b.toNat,[b]):Pc)),isWord x=true
 | [],_=>⟨pcs_nil,fun _ h=>by cases h⟩
 | c :: l,h=>by
  obtain⟨h1,h2⟩:=lets_pcs l (fun b hb=>h b (by simp[hb]))
  have hc:=h c (by simp)
  refine⟨by rw[pcs_asc c l hc.1,h1];rfl,fun x hx=>?_⟩
  rcases List.mem_cons.1 hx with rfl | hx
  ·unfold isWord
   exact decide_eq_true (.inl hc.2)
  ·exact h2 x hx
theorem lexL_lets (l:List UInt8) (hne:l≠[]) (hd:∀ b ∈ l,b.toNat<128∧classZ (b.toNat:Int)=1) (hv:l.length≤24):lexL l=.ok [⟨3,l,0,0⟩]:=by
 unfold lexL
 cases l with
 | nil=>exact absurd rfl hne
 | cons c r =>
  obtain⟨hp2,hD2⟩:=lets_pcs r (fun b hb=>hd b (by simp[hb]))
  have hc:=hd c (by simp)
  have ec:classZ ((c.toNat:Nat):Int)=1:=hc.2
  rw[pcs_asc c r hc.1]
  have htw:(pcs r).takeWhile isWord=pcs r:=by
   rw[hp2]
   have:=List.takeWhile_append_of_pos (p:=isWord) (l₁:=r.map fun b=>((b.toNat,[b]):Pc)) (l₂:=[]) hD2
   simpa using this
  have hf:flat ((c.toNat,[c]) :: pcs r)=c :: r:=by rw[flat_cons,flat_pcs];rfl
  have ht:tokF (c.toNat,[c]) (pcs r)=some ⟨3,c :: r,0,(pcs r).length⟩:=by
   unfold tokF
   rw[if_neg (by dsimp only;rw[ec];decide),if_pos ec]
   unfold nameF
   rw[htw,hf,if_pos hv]
  rw[lexR_some _ _ _ (by dsimp only;rw[ec];decide) _ ht]
  dsimp only
  rw[List.drop_length,lexR_nil]
  rfl
theorem lex_word (l:List UInt8) (h:l ∈ [wTrue,wFalse,wIf,wLen,wCat,wCut,wHas,wUp]):lexL l=.ok [⟨3,l,0,0⟩]:=by
 have hall:∀ l ∈ [wTrue,wFalse,wIf,wLen,wCat,wCut,wHas,wUp],l≠[]∧(∀ b ∈ l,b.toNat<128∧classZ (b.toNat:Int)=1)∧l.length≤24:=by decide +kernel
 obtain⟨h1,h2,h3⟩:=hall l h
 exact lexL_lets l h1 h2 h3
theorem Lx.word {l:List UInt8} (h:l ∈ [wTrue,wFalse,wIf,wLen,wCat,wCut,wHas,wUp]):Lx l [nmK l]:=⟨_,lex_word l h,rfl⟩
end
section
open Go.Lib
def signL (op:Int):List UInt8 :=
 if op=7 then [43] else if op=8 then [45] else if op=9 then [42] else if op=10 then [47] else if op=11 then [37] else if op=12 then [61] else if op=13 then [33,61] else if op=14 then [60] else if op=15 then [60,61] else if op=16 then [38] else [124]
def wordL (op:Int):List UInt8:=if op=18 then wIf else if op=19 then wLen else if op=20 then wCat else if op=21 then wCut else if op=22 then wHas else wUp
def commaL:List (List UInt8)→List UInt8
 | []=>[]
 | [a]=>a
 | a :: b :: l=>a++44 :: 32 :: commaL (b :: l)
def headL:List (List UInt8)→List UInt8
 | []=>[]
 | a :: _=>a
def ownL (op:Int) (ts:List (List UInt8)):List UInt8 :=
 if op=5 then 45 :: headL ts
 else if op=6 then 33 :: headL ts
 else if 7≤op∧op≤17 then 40 :: (headL ts++32 :: (signL op++32 :: (headL ts.tail++[41])))
 else wordL op++40 :: (commaL ts++[41])
mutual
/-- An expression as a formula. -/
def textE:Ex→List UInt8
 | .mk op n s ks=>if op=1 then itoa n else if op=2 then quoteL s else if op=3 then (if n=1 then wTrue else wFalse) else if op=4 then s else ownL op (textsL ks)
def textsL:List Ex→List (List UInt8)
 | []=>[]
 | e :: es=>textE e :: textsL es
end
mutual
/-- All numbers are numbers of 64 bits. -/
def fitE:Ex→Prop
 | .mk _ n _ ks=>n≤9223372036854775807∧fitL ks
def fitL:List Ex→Prop
 | []=>True
 | e :: es=>fitE e∧fitL es
end
theorem all_part {e:Ex} (h:allB e=true):partB e=true:=by
 cases e with
 | mk op n s ks=>rw[allB] at h;simp only[Bool.and_eq_true] at h;exact h.1
theorem part_arity {op n:Int} {s:List UInt8} {ks:List Ex} (h:partB (.mk op n s ks)=true):arity op=some ks.length∧plainB op n s=true∧hasB op ks=true:=by
 unfold partB at h
 simp only[Bool.and_eq_true,decide_eq_true_eq] at h
 exact⟨h.1.1,h.1.2,h.2⟩
theorem arity_in {op:Int} {k:Nat} (h:arity op=some k):(k=0∧(op=1∨op=2∨op=3∨op=4))∨(k=1∧(op=5∨op=6∨op=19∨op=22∨op=23))∨(k=2∧(7≤op∧op≤17∨op=20∨op=21))∨(k=3∧op=18):=by
 unfold arity at h
 split at h
 ·injection h with h;exact .inl ⟨h.symm,by omega⟩
 ·split at h
  ·injection h with h;exact .inr (.inl ⟨h.symm,by assumption⟩)
  ·split at h
   ·injection h with h;exact .inr (.inr (.inl ⟨h.symm,by assumption⟩))
   ·split at h
    ·injection h with h;exact .inr (.inr (.inr ⟨h.symm,by assumption⟩))
    ·cases h
theorem head_key {l:List UInt8} {ks:List Key} (h:Lx l ks) (hk:ks.head?≠some (sgK [61])):l.head?≠some 61:=by
 intro e
 cases l with
 | nil=>cases e
 | cons c r =>
  simp only[List.head?_cons,Option.some.injEq] at e
  subst e
  obtain⟨ts,h1,h2⟩:=h
  rw[lexL_sign (by decide) (by intro h;exact absurd h (by decide))] at h1
  cases hr:lexL r with
  | error p=>rw[hr] at h1;cases h1
  | ok us =>
   rw[hr] at h1
   simp only[shE,ahead] at h1
   injection h1 with h1
   subst h1
   apply hk
   rw[← h2];rfl
theorem Wr.head {e:Ex} {ks:List Key} (h:Wr e ks):ks.head?≠some (sgK [61]):=by
 cases h<;>simp
def Tells (e:Ex):Prop:=∃ ks,Wr e ks∧Lx (textE e) ks
theorem two_lex {c:List UInt8} (hc:∃ op,7≤op∧op≤17∧c=signL op) {b:List UInt8} {ms:List Key} (h:Lx b ms):Lx (c++32 :: b) (sgK c :: ms):=by
 obtain⟨op,h1,h2,rfl⟩:=hc
 have:op=7∨op=8∨op=9∨op=10∨op=11∨op=12∨op=13∨op=14∨op=15∨op=16∨op=17:=by omega
 rcases this with rfl | rfl | rfl | rfl | rfl | rfl | rfl | rfl | rfl | rfl | rfl
 all_goals first
  | exact Lx.sign (by decide) (by intro _;simp) h.blank
  | exact Lx.two (.inl rfl) h.blank
  | exact Lx.two (.inr (.inl rfl)) h.blank
theorem opSign_of {op:Int} (h1:7≤op) (h2:op≤17):∃ (m l:Nat),op=(m:Int)∧opSign m=some (l,signL op):=by
 have:op=7∨op=8∨op=9∨op=10∨op=11∨op=12∨op=13∨op=14∨op=15∨op=16∨op=17:=by omega
 rcases this with rfl | rfl | rfl | rfl | rfl | rfl | rfl | rfl | rfl | rfl | rfl
 ·exact⟨7,3,rfl,rfl⟩
 ·exact⟨8,3,rfl,rfl⟩
 ·exact⟨9,4,rfl,rfl⟩
 ·exact⟨10,4,rfl,rfl⟩
 ·exact⟨11,4,rfl,rfl⟩
 ·exact⟨12,2,rfl,rfl⟩
 ·exact⟨13,2,rfl,rfl⟩
 ·exact⟨14,2,rfl,rfl⟩
 ·exact⟨15,2,rfl,rfl⟩
 ·exact⟨16,1,rfl,rfl⟩
 ·exact⟨17,0,rfl,rfl⟩
theorem lx_shut:Lx [41] [sgK [41]]:=Lx.sign (by decide) (by intro h;exact absurd h (by decide)) Lx.nil
theorem lx_close {a:List UInt8} {ks:List Key} (h:Lx a ks):Lx (a++[41]) (ks++[sgK [41]]):=h.then stop_41 lx_shut
theorem lx_comma {a b:List UInt8} {ks ms:List Key} (h:Lx a ks) (h2:Lx b ms):Lx (a++44 :: 32 :: b) (ks++(sgK [44] :: ms)) :=
 h.then stop_44 (Lx.sign (by decide) (by intro h;exact absurd h (by decide)) h2.blank)
theorem lx_open {b:List UInt8} {ms:List Key} (h:Lx b ms):Lx (40 :: b) (sgK [40] :: ms):=Lx.sign (by decide) (by intro h;exact absurd h (by decide)) h
theorem lx_call {w b:List UInt8} {ms:List Key} (hw:w ∈ [wTrue,wFalse,wIf,wLen,wCat,wCut,wHas,wUp]) (h:Lx b ms):Lx (w++40 :: b) (nmK w :: sgK [40] :: ms) :=
 (Lx.word hw).then stop_40 (lx_open h)
theorem len_two {α:Type}:∀ {l:List α},l.length=2→∃ a b,l=[a,b]
 | [a,b],_=>⟨a,b,rfl⟩
theorem len_three {α:Type}:∀ {l:List α},l.length=3→∃ a b c,l=[a,b,c]
 | [a,b,c],_=>⟨a,b,c,rfl⟩
theorem textE_name {n:Int} {s:List UInt8} {ks:List Ex}:textE (.mk 4 n s ks)=s:=by rw[textE];rfl
mutual
theorem tells:∀ (e:Ex),allB e=true→fitE e→Tells e
 | .mk op n s ks,h,hf=>by
  obtain⟨ha,hp,hh⟩:=part_arity (all_part h)
  rw[allB] at h
  simp only[Bool.and_eq_true] at h
  rw[fitE] at hf
  have hL:=tellsL ks h.2 hf.2
  rcases arity_in ha with ⟨hk,h1⟩ | ⟨hk,h1⟩ | ⟨hk,h1⟩ | ⟨hk,h1⟩
  ·obtain rfl:=List.length_eq_zero_iff.1 hk
   rcases h1 with rfl | rfl | rfl | rfl
   ·simp only[plainB,if_true,Bool.and_eq_true,decide_eq_true_eq,List.isEmpty_iff] at hp
    obtain⟨h0,rfl⟩:=hp
    obtain⟨m,rfl⟩:∃ m:Nat,n=(m:Int):=⟨n.toNat,by omega⟩
    refine⟨_,Wr.num m,?_⟩
    have:=Lx.num (m:Int) h0 hf.1
    rw[textE,if_pos rfl]
    simpa using this
   ·have hp':n=0∧textB s=true:=by simpa[plainB] using hp
    obtain⟨rfl,ht⟩:=hp'
    refine⟨_,Wr.text s,?_⟩
    rw[textE,if_neg (by decide),if_pos rfl]
    exact Lx.quote ht
   ·have hp':(n=0∨n=1)∧s=[]:=by simpa[plainB] using hp
    obtain⟨rfl | rfl,rfl⟩:=hp'
    ·refine⟨_,Wr.fls,?_⟩
     rw[textE,if_neg (by decide),if_neg (by decide),if_pos rfl,if_neg (by decide)]
     exact Lx.word (by simp)
    ·refine⟨_,Wr.tru,?_⟩
     rw[textE,if_neg (by decide),if_neg (by decide),if_pos rfl,if_pos rfl]
     exact Lx.word (by simp)
   ·have hp':n=0∧nameB s=true:=by simpa[plainB] using hp
    obtain⟨rfl,ht⟩:=hp'
    refine⟨_,Wr.name s (nameB_word ht),?_⟩
    rw[textE_name]
    exact Lx.name ht
  ·obtain⟨a,rfl⟩:=List.length_eq_one_iff.1 hk
   obtain⟨ka,wa,la⟩:=hL a (by simp)
   have hp':n=0∧s=[]:=by
    rcases h1 with rfl | rfl | rfl | rfl | rfl<;>simpa[plainB] using hp
   obtain⟨rfl,rfl⟩:=hp'
   have e:textE (.mk op 0 [] [a])=ownL op [textE a]:=by
    rw[textE,textsL,textsL]
    rcases h1 with rfl | rfl | rfl | rfl | rfl<;>rfl
   unfold Tells
   rw[e]
   rcases h1 with rfl | rfl | rfl | rfl | rfl
   ·exact⟨_,Wr.neg wa,Lx.sign (by decide) (by intro h;exact absurd h (by decide)) la⟩
   ·exact⟨_,Wr.not wa,Lx.sign (by decide) (fun _=>head_key la wa.head) la⟩
   ·exact⟨_,Wr.call1 (op:=19) (w:=wLen) (by decide) wa,lx_call (w:=wLen) (by simp) (lx_close la)⟩
   · -- has
    have h4:a.op=4:=by simpa[hasB] using hh
    cases a with
    | mk o m u zs =>
     obtain rfl:o=4:=h4
     have hB:=h.2
     rw[allBL,allBL] at hB
     simp only[Bool.and_true] at hB
     obtain⟨q1,q2,-⟩:=part_arity (all_part hB)
     have q3:m=0∧nameB u=true:=by simpa[plainB] using q2
     obtain⟨rfl,hu⟩:=q3
     obtain rfl:zs=[]:=List.length_eq_zero_iff.1 (Option.some.inj (q1.symm.trans (show arity 4=some 0 by decide)))
     refine⟨_,Wr.has u (nameB_word hu),?_⟩
     rw[textE_name]
     exact lx_call (w:=wHas) (by simp) (lx_close (Lx.name hu))
   ·exact⟨_,Wr.call1 (op:=23) (w:=wUp) (by decide) wa,lx_call (w:=wUp) (by simp) (lx_close la)⟩
  ·obtain⟨a,b,rfl⟩:=len_two hk
   obtain⟨ka,wa,la⟩:=hL a (by simp)
   obtain⟨kb,wb,lb⟩:=hL b (by simp)
   have hp':n=0∧s=[]:=by
    have hne:op≠1∧op≠2∧op≠3∧op≠4:=by omega
    simpa[plainB,hne] using hp
   obtain⟨rfl,rfl⟩:=hp'
   have e:textE (.mk op 0 [] [a,b])=ownL op [textE a,textE b]:=by
    rw[textE,textsL,textsL,textsL,if_neg (by omega),if_neg (by omega),if_neg (by omega),if_neg (by omega)]
   unfold Tells
   rw[e]
   rcases h1 with ⟨g1,g2⟩ | rfl | rfl
   ·obtain⟨m,l,rfl,hs⟩:=opSign_of g1 g2
    refine⟨_,Wr.two hs wa wb,?_⟩
    unfold ownL
    rw[if_neg (by omega),if_neg (by omega),if_pos ⟨g1,g2⟩]
    exact lx_open (la.then stop_32 (Lx.blank (two_lex ⟨_,g1,g2,rfl⟩ (lx_close lb))))
   ·exact⟨_,Wr.call2 (op:=20) (w:=wCat) (by decide) wa wb,lx_call (w:=wCat) (by simp) (by
     have:=lx_comma la (lx_close lb)
     simpa[commaL] using this)⟩
   ·exact⟨_,Wr.call2 (op:=21) (w:=wCut) (by decide) wa wb,lx_call (w:=wCut) (by simp) (by
     have:=lx_comma la (lx_close lb)
     simpa[commaL] using this)⟩
  ·obtain⟨a,b,c,rfl⟩:=len_three hk
   obtain⟨ka,wa,la⟩:=hL a (by simp)
   obtain⟨kb,wb,lb⟩:=hL b (by simp)
   obtain⟨kc,wc,lc⟩:=hL c (by simp)
   subst h1
   have hp':n=0∧s=[]:=by simpa[plainB] using hp
   obtain⟨rfl,rfl⟩:=hp'
   have e:textE (.mk 18 0 [] [a,b,c])=ownL 18 [textE a,textE b,textE c]:=by
    rw[textE,textsL,textsL,textsL,textsL];rfl
   unfold Tells
   rw[e]
   exact⟨_,Wr.call3 (op:=18) (w:=wIf) (by decide) wa wb wc,lx_call (w:=wIf) (by simp) (by
    have:=lx_comma la (lx_comma lb (lx_close lc))
    simpa[commaL] using this)⟩
theorem tellsL:∀ (es:List Ex),allBL es=true→fitL es→∀ e ∈ es,Tells e
 | [],_,_=>fun _ h=>by cases h
 | e :: es,h,hf=>fun x hx=>by
  rw[allBL] at h
  simp only[Bool.and_eq_true] at h
  rw[fitL] at hf
  rcases List.mem_cons.1 hx with hx | hx
  ·rw[hx];exact tells e h.1 hf.1
  ·exact tellsL es h.2 hf.2 x hx
end
end
section
def Sh (ts:List Tk) (r:Except Nat (Ex × List Tk)):Prop:=∀ a q,r=.ok (a,q)→q.length<ts.length∧∃ p,ts=p++q
def ShL (ts:List Tk) (r:Except Nat (Ex × List Tk)):Prop:=∀ a q,r=.ok (a,q)→q.length≤ts.length∧∃ p,ts=p++q
theorem sh_err (ts:List Tk) (p:Nat):Sh ts (.error p):=fun _ _ h=>by cases h
theorem shL_err (ts:List Tk) (p:Nat):ShL ts (.error p):=fun _ _ h=>by cases h
theorem sh_ok {ts q:List Tk} {a:Ex} (h:q.length<ts.length) (h2:∃ p,ts=p++q):Sh ts (.ok (a,q)):=fun b z e=>by
 injection e with e;injection e with e1 e2;subst e2;exact⟨h,h2⟩
theorem shL_ok {ts q:List Tk} {a:Ex} (h:q.length≤ts.length) (h2:∃ p,ts=p++q):ShL ts (.ok (a,q)):=fun b z e=>by
 injection e with e;injection e with e1 e2;subst e2;exact⟨h,h2⟩
theorem PU.of5 {ts:List Tk} {r:Except Nat (Ex × List Tk)} (h:PE 5 ts r):PU ts r:=by
 obtain⟨f,h⟩:=h
 cases f with
 | zero=>rw[pE] at h;cases h
 | succ f=>rw[pE,if_neg (by omega)] at h;exact⟨f,h⟩
theorem isS_cons {ts:List Tk} {s:List UInt8} (h:isS ts s=true):∃ t q,ts=t :: q:=by
 cases ts with
 | nil=>cases h
 | cons t q=>exact⟨t,q,rfl⟩
theorem opH_cons {l:Nat} {ts:List Tk} {o:Nat × Bool} (h:opH l ts=some o):∃ t q,ts=t :: q:=by
 cases ts with
 | nil=>cases h
 | cons t q=>exact⟨t,q,rfl⟩
theorem isS_or (ts:List Tk) (s:List UInt8):isS ts s=true∨isS ts s=false:=by cases isS ts s<;>simp
def Tot (n:Nat):Prop:=∀ ts:List Tk,ts.length<n→∀ l,l≤5→∃ r,PE l ts r∧Sh ts r
theorem PL_tot {n:Nat} (H:Tot n):∀ (m:Nat) (q:List Tk),q.length≤m→q.length<n→∀ l a,l<5→∃ r,PL l a q r∧ShL q r:=by
 intro m
 induction m with
 | zero =>
  intro q hq _ l a hl
  obtain rfl:=List.length_eq_zero_iff.1 (Nat.le_zero.1 hq)
  exact⟨_,PL.stop rfl,shL_ok (Nat.le_refl _) ⟨[],rfl⟩⟩
 | succ m ih =>
  intro q hq hn l a hl
  cases ho:opH l q with
  | none=>exact⟨_,PL.stop ho,shL_ok (Nat.le_refl _) ⟨[],rfl⟩⟩
  | some o =>
   obtain⟨t,z,rfl⟩:=opH_cons ho
   simp only[List.length_cons] at hq hn
   obtain⟨r,h1,h2⟩:=H z (by omega) (l+1) (by omega)
   cases r with
   | error p=>exact⟨_,PL.err ho h1,shL_err _ _⟩
   | ok x =>
    obtain⟨b,y⟩:=x
    obtain⟨h3,p,hp⟩:=h2 b y rfl
    by_cases h:l=2
    ·subst h
     exact⟨_,PL.cmp ho h1,shL_ok (by simp only[List.length_cons];omega) ⟨t :: p,by rw[hp];rfl⟩⟩
    ·obtain⟨r,h4,h5⟩:=ih y (by omega) (by omega) l (twoE o.1 o.2 a b) hl
     refine⟨r,PL.more ho h h1 h4,fun c x e=>?_⟩
     obtain⟨h6,p2,hp2⟩:=h5 c x e
     exact⟨by simp only[List.length_cons];omega,t :: p++p2,by rw[hp,hp2];simp⟩
theorem PK_tot {n:Nat} (H:Tot n):∀ (k:Nat) (b:Bool) (q:List Tk),q.length<n→∃ r,PK k b q r∧∀ es z,r=.ok (es,z)→z.length≤q.length∧∃ p,q=p++z:=by
 intro k
 induction k with
 | zero =>
  intro b q _
  exact⟨_,PK.zero,fun es z e=>by injection e with e;injection e with e1 e2;subst e2;exact⟨Nat.le_refl _,[],rfl⟩⟩
 | succ k ih =>
  intro b q hn
  have key:(b=false∧isS q [44]=false)∨∃ z,Sep b q z∧z.length≤q.length∧∃ p,q=p++z:=by
   cases b with
   | true=>exact .inr ⟨q,.inl ⟨rfl,rfl⟩,Nat.le_refl _,[],rfl⟩
   | false =>
    rcases isS_or q [44] with h | h
    ·obtain⟨t,z,rfl⟩:=isS_cons h
     exact .inr ⟨z,.inr ⟨rfl,h,rfl⟩,by simp,[t],rfl⟩
    ·exact .inl ⟨rfl,h⟩
  rcases key with ⟨rfl,h⟩ | ⟨z,hs,hz,p,hp⟩
  ·exact⟨_,PK.comma h,fun _ _ e=>by cases e⟩
  ·obtain⟨r,h1,h2⟩:=H z (by omega) 0 (by omega)
   cases r with
   | error p=>exact⟨_,PK.err1 hs h1,fun _ _ e=>by cases e⟩
   | ok x =>
    obtain⟨a,y⟩:=x
    obtain⟨h3,p2,hp2⟩:=h2 a y rfl
    obtain⟨r,h4,h5⟩:=ih false y (by omega)
    cases r with
    | error p=>exact⟨_,PK.err2 hs h1 h4,fun _ _ e=>by cases e⟩
    | ok x =>
     obtain⟨es,x⟩:=x
     obtain⟨h6,p3,hp3⟩:=h5 es x rfl
     exact⟨_,PK.next hs h1 h4,fun es2 z2 e=>by
      injection e with e;injection e with e1 e2;subst e2
      exact⟨by omega,p++p2++p3,by rw[hp,hp2,hp3];simp⟩⟩
theorem PX_tot {n:Nat} (H:Tot n) (op k:Nat) (q:List Tk) (hn:q.length<n):∃ r,PX op k q r∧ShL q r:=by
 rcases isS_or q [40] with h | h
 ·obtain⟨t,z,rfl⟩:=isS_cons h
  simp only[List.length_cons] at hn
  obtain⟨r,h1,h2⟩:=PK_tot H k true z (by omega)
  cases r with
  | error p=>exact⟨_,PX.err h h1,shL_err _ _⟩
  | ok x =>
   obtain⟨es,y⟩:=x
   obtain⟨h3,p,hp⟩:=h2 es y rfl
   rcases isS_or y [41] with h4 | h4
   ·obtain⟨u,x,rfl⟩:=isS_cons h4
    simp only[List.length_cons] at h3
    exact⟨_,PX.ok h h1 h4,shL_ok (by simp only[List.length_cons,List.tail_cons];omega) ⟨t :: p++[u],by rw[hp];simp⟩⟩
   ·exact⟨_,PX.close h h1 h4,shL_err _ _⟩
 ·exact⟨_,PX.open_ h,shL_err _ _⟩
theorem pHas_tot (q:List Tk):∃ r,pHas q=some r∧ShL q r:=by
 unfold pHas mustS
 rcases isS_or q [40] with h | h
 ·rw[if_pos h]
  obtain⟨t,z,rfl⟩:=isS_cons h
  rw[bnd_ok rfl]
  cases z with
  | nil=>exact⟨_,rfl,shL_err _ _⟩
  | cons u y =>
   dsimp only[List.tail_cons]
   split
   ·rcases isS_or y [41] with h4 | h4
    ·obtain⟨v,x,rfl⟩:=isS_cons h4
     rw[if_pos h4,bnd_ok rfl]
     exact⟨_,rfl,shL_ok (by simp only[List.length_cons,List.tail_cons];omega) ⟨[t,u,v],rfl⟩⟩
    ·rw[if_neg (by rw[h4];decide),bnd_err rfl]
     exact⟨_,rfl,shL_err _ _⟩
   ·exact⟨_,rfl,shL_err _ _⟩
 ·rw[if_neg (by rw[h];decide),bnd_err rfl]
  exact⟨_,rfl,shL_err _ _⟩
theorem PW_tot {n:Nat} (H:Tot n) (s:List UInt8) (q:List Tk) (hn:q.length<n):∃ r,PW s q r∧ShL q r:=by
 by_cases h1:s=wTrue
 ·subst h1;exact⟨_,PW.true_,shL_ok (Nat.le_refl _) ⟨[],rfl⟩⟩
 by_cases h2:s=wFalse
 ·subst h2;exact⟨_,PW.false_,shL_ok (Nat.le_refl _) ⟨[],rfl⟩⟩
 by_cases h3:s=wHas
 ·subst h3
  obtain⟨r,a,b⟩:=pHas_tot q
  exact⟨_,PW.has a,b⟩
 cases hc:callW s with
 | some o =>
  obtain⟨r,a,b⟩:=PX_tot H o.1 o.2 q hn
  exact⟨_,PW.call hc a,b⟩
 | none =>
  refine⟨_,PW.name ?_,shL_ok (Nat.le_refl _) ⟨[],rfl⟩⟩
  unfold callW at hc
  have g3:s≠wIf:=fun e=>by rw[if_pos e] at hc;cases hc
  rw[if_neg g3] at hc
  have g4:s≠wLen:=fun e=>by rw[if_pos e] at hc;cases hc
  rw[if_neg g4] at hc
  have g5:s≠wCat:=fun e=>by rw[if_pos e] at hc;cases hc
  rw[if_neg g5] at hc
  have g6:s≠wCut:=fun e=>by rw[if_pos e] at hc;cases hc
  rw[if_neg g6] at hc
  have g7:s≠wUp:=fun e=>by rw[if_pos e] at hc;cases hc
  unfold isWordL
  simp[h1,h2,h3,g3,g4,g5,g6,g7]
theorem PA_tot {n:Nat} (H:Tot n) (ts:List Tk) (hn:ts.length≤n):∃ r,PA ts r∧Sh ts r:=by
 cases ts with
 | nil=>exact⟨.error 0,⟨1,by rw[pA]⟩,sh_err _ _⟩
 | cons t q =>
  simp only[List.length_cons] at hn
  by_cases h1:t.k=1
  ·exact⟨_,PA.num h1,sh_ok (by simp) ⟨[t],rfl⟩⟩
  by_cases h2:t.k=2
  ·exact⟨_,PA.text h2,sh_ok (by simp) ⟨[t],rfl⟩⟩
  by_cases h3:t.k=3
  ·obtain⟨r,a,b⟩:=PW_tot H t.s q (by omega)
   refine⟨r,PA.word h3 a,fun c z e=>?_⟩
   obtain⟨b1,p,hp⟩:=b c z e
   exact⟨by simp only[List.length_cons];omega,t :: p,by rw[hp];rfl⟩
  rcases isS_or (t :: q) [40] with h | h
  ·obtain⟨r,a,b⟩:=H q (by omega) 0 (by omega)
   cases r with
   | error p=>exact⟨_,PA.parenErr h a,sh_err _ _⟩
   | ok x =>
    obtain⟨c,z⟩:=x
    obtain⟨b1,p,hp⟩:=b c z rfl
    rcases isS_or z [41] with h4 | h4
    ·obtain⟨u,y,rfl⟩:=isS_cons h4
     simp only[List.length_cons] at b1
     exact⟨_,PA.paren h a h4,sh_ok (by simp only[List.length_cons,List.tail_cons];omega) ⟨t :: p++[u],by rw[hp];simp⟩⟩
    ·exact⟨_,PA.parenOpen h a h4,sh_err _ _⟩
  ·exact⟨_,PA.wrong h1 h2 h3 h,sh_err _ _⟩
theorem PU_tot {n:Nat} (H:Tot n) (ts:List Tk) (hn:ts.length≤n):∃ r,PU ts r∧Sh ts r:=by
 have key:∀ s:List UInt8,isS ts s=true→∃ t q,ts=t :: q∧∃ r,PU q r∧Sh q r:=by
  intro s h
  obtain⟨t,q,rfl⟩:=isS_cons h
  simp only[List.length_cons] at hn
  obtain⟨r,a,b⟩:=H q (by omega) 5 (Nat.le_refl _)
  exact⟨t,q,rfl,r,.of5 a,b⟩
 rcases isS_or ts [45] with h | h
 ·obtain⟨t,q,rfl,r,a,b⟩:=key _ h
  cases r with
  | error p=>exact⟨_,PU.err (.inl h) a,sh_err _ _⟩
  | ok x =>
   obtain⟨c,z⟩:=x
   obtain⟨b1,p,hp⟩:=b c z rfl
   exact⟨_,PU.neg h a,sh_ok (by simp only[List.length_cons];omega) ⟨t :: p,by rw[hp];rfl⟩⟩
 rcases isS_or ts [33] with h2 | h2
 ·obtain⟨t,q,rfl,r,a,b⟩:=key _ h2
  cases r with
  | error p=>exact⟨_,PU.err (.inr h2) a,sh_err _ _⟩
  | ok x =>
   obtain⟨c,z⟩:=x
   obtain⟨b1,p,hp⟩:=b c z rfl
   exact⟨_,PU.not h h2 a,sh_ok (by simp only[List.length_cons];omega) ⟨t :: p,by rw[hp];rfl⟩⟩
 ·obtain⟨r,a,b⟩:=PA_tot H ts hn
  exact⟨_,PU.atom h h2 a,b⟩
theorem PE_tot {n:Nat} (H:Tot n) (ts:List Tk) (hn:ts.length≤n):∀ d l,l+d=5→∃ r,PE l ts r∧Sh ts r:=by
 intro d
 induction d with
 | zero =>
  intro l hl
  obtain rfl:l=5:=by omega
  obtain⟨r,a,b⟩:=PU_tot H ts hn
  exact⟨_,PE.un a,b⟩
 | succ d ih =>
  intro l hl
  obtain⟨r,a,b⟩:=ih (l+1) (by omega)
  cases r with
  | error p=>exact⟨_,PE.upErr (by omega) a,sh_err _ _⟩
  | ok x =>
   obtain⟨c,q⟩:=x
   obtain⟨b1,p,hp⟩:=b c q rfl
   obtain⟨r,e,f⟩:=PL_tot H q.length q (Nat.le_refl _) (by omega) l c (by omega)
   refine⟨r,PE.up (by omega) a e,fun y z g=>?_⟩
   obtain⟨f1,p2,hp2⟩:=f y z g
   exact⟨by omega,p++p2,by rw[hp,hp2];simp⟩
theorem tot:∀ n,Tot n:=by
 intro n
 induction n with
 | zero=>intro ts h;omega
 | succ n ih=>intro ts h l hl;exact PE_tot ih ts (by omega) (5 - l) l (by omega)
theorem PE.all (ts:List Tk) (l:Nat) (hl:l≤5):∃ r,PE l ts r∧Sh ts r:=tot (ts.length+1) ts (by omega) l hl
end
end Go.Proofs.YtbbblmedoagncaaGreatDoor
