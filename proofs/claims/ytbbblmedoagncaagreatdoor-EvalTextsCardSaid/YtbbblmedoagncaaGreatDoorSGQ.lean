/- ParP2, ParRun, ParV2 -/
import Derived.Test.YtbbblmedoagncaaGreatDoorSGN
import Derived.Test.YtbbblmedoagncaaGreatDoorSGJ
import Derived.Test.YtbbblmedoagncaaGreatDoorSGG
import Derived.Test.YtbbblmedoagncaaGreatDoorSGO
import Derived.Test.YtbbblmedoagncaaGreatDoorSGH
import Derived.Test.YtbbblmedoagncaaGreatDoorSHK
import Derived.Test.YtbbblmedoagncaaGreatDoorSGX
import Derived.Test.YtbbblmedoagncaaGreatDoorSGI
import Derived.Test.YtbbblmedoagncaaGreatDoorSGP
import Derived.Test.YtbbblmedoagncaaGreatDoorSGB
import Derived.Test.YtbbblmedoagncaaGreatDoorSMLexRL
import Derived.Lib.TrimUEq
import Derived.Lib.SpaceUEq
import Derived.Lib.ItoaLen
import Derived.Lib.Join
import Derived.Shelf.Strconv.Itoa4
import Derived.Lib.AppendIntMem
import Derived.Shelf.Small.Strs
import Derived.Shelf.Small.Wraps
import Derived.Shelf.Strings.OnBuilder
import Derived.Deep.LoopGhost
namespace Go.Proofs.YtbbblmedoagncaaGreatDoor
section
open Lib (hid)
open _root_.Go.Proofs.Tryz
set_option maxHeartbeats 4000000
set_option maxRecDepth 100000
open Go.RowKit
def endR (r:Except Nat (Ex × List Tk)):Except (Nat × Nat) Ex :=
 match wholeR r with
 | .error p=>.error (p,6)
 | .ok a=>if chkB a then .ok a else .error (0,7)
def Says (l:List UInt8) (R:Except (Nat × Nat) Ex):Prop :=
 (400<l.length∧R=.error (400,7))∨(l.length≤400∧((∃ p,lexL l=.error p∧R=.error (p,5))∨∃ ts r,lexL l=.ok ts∧PE 0 (ts++[endT l.length]) r∧R=endR r))
theorem says_all (l:List UInt8):∃ R,Says l R:=by
 by_cases h:400<l.length
 ·exact⟨_,.inl ⟨h,rfl⟩⟩
 ·cases hl:lexL l with
  | error p=>exact⟨_,.inr ⟨by omega,.inl ⟨p,hl,rfl⟩⟩⟩
  | ok ts =>
   obtain⟨r,hr,-⟩:=PE.all (ts++[endT l.length]) 0 (by omega)
   exact⟨_,.inr ⟨by omega,.inr ⟨ts,r,hl,hr,rfl⟩⟩⟩
def PaEnd (w:World) (R:Except (Nat × Nat) Ex) (e:Ending) (w':World):Prop :=
 Below w.heap.size w w'∧match R with
 | .ok a=>∃ op n s ao c,e=.returned (.tuple #[EV op n s (.slice ao a.kids.length c),.int .i64 0,.int .i64 0])∧ExIn w' (Up w.heap.size) a (EV op n s (.slice ao a.kids.length c))
 | .error p=>e=.returned (.tuple #[EV 0 0 ⟨#[]⟩ (.slice none 0 0),.int .i64 (p.1:Int),.int .i64 (p.2:Int)])
theorem parse_bad (s:ByteArray) (p f:Nat) (hf:f=5∨f=7) (w:World) (hL:∀ w',Below w.heap.size w w'→Calls prog 42 #[.string s] w' fun e w''=>Below w'.heap.size w' w''∧e=.returned (.tuple #[.slice none 0 0,.int .i64 (p:Int),.int .i64 (f:Int)])) :
  Calls prog 16 #[.string s] w (PaEnd w (.error (p,f))):=by
 have hX:=four_new w (.int .i64 0) (.int .i64 0) (.string ⟨#[]⟩) (.slice none 0 0) 24
 have hbX:=below_alloc w (.cells #[.int .i64 0,.int .i64 0,.string ⟨#[]⟩,.slice none 0 0] 24)
 obtain⟨wX,hwX⟩:∃ wX,w.alloc (.cells #[.int .i64 0,.int .i64 0,.string ⟨#[]⟩,.slice none 0 0] 24)=wX:=⟨_,rfl⟩
 rw[hwX] at hX hbX
 have c:=hL wX hbX
 go_enter func16,ntmps16
 go_wp2_with fail
 refine c.mono ?_
 rintro e w1 ⟨b1,rfl⟩
 obtain⟨xl,x0,x1,x2,x3,f0,f1,f2,f3⟩:=hX.later b1
 have hb1:=below_to hbX b1
 have hfz:((f:Int) != 0)=true:=by rw[bne_iff_ne];omega
 clear hX hbX c hL hwX
 go_wp2_with fail
 exact bodyPost_ret (v:=.tuple #[EV 0 0 ⟨#[]⟩ (.slice none 0 0),.int .i64 (p:Int),.int .i64 (f:Int)]) (by simp[results,results16,go_sem,x0,x1,x2,x3]) rfl ⟨below_put4 hb1 (Nat.le_refl _) _ _ _ _,rfl⟩
theorem parse_good (s:ByteArray) (ts:List Tk) (r:Except Nat (Ex × List Tk)) (w:World) (hs:s.size≤400) (hl:lexL s.data.toList=.ok ts) (hr:PE 0 (ts++[endT s.size]) r) (hE:EnvP w) :
  Calls prog 16 #[.string s] w (PaEnd w (endR r)):=by
 have hX:=four_new w (.int .i64 0) (.int .i64 0) (.string ⟨#[]⟩) (.slice none 0 0) 24
 have hbX:=below_alloc w (.cells #[.int .i64 0,.int .i64 0,.string ⟨#[]⟩,.slice none 0 0] 24)
 have hEX:=hE.later hbX
 obtain⟨wX,hwX⟩:∃ wX,w.alloc (.cells #[.int .i64 0,.int .i64 0,.string ⟨#[]⟩,.slice none 0 0] 24)=wX:=⟨_,rfl⟩
 rw[hwX] at hX hbX hEX
 have hG:=good_tokens hl hs
 have hfew:=lex_few hl
 have c:=lex_yes s ts wX hs hl hEX.env
 have hTl:(ts++[endT s.size]).length=ts.length+1:=by simp
 go_enter func16,ntmps16
 go_wp2_with fail
 refine c.mono ?_
 rintro e w1 ⟨b1,ao,cap,rfl,hcap,hat⟩
 obtain⟨h,rfl,hh,hrow⟩:=hat (by rw[hTl];omega)
 have hb1:=below_to hbX b1
 have cW:=whole_any w1 (ts++[endT s.size]) h cap r (hE.later hb1) hG (by rw[hTl];omega) (by rw[hTl];exact hcap) (by rw[hTl];omega) ⟨hh,hrow⟩ hr
 rw[hTl] at cW
 have hX1:=hX.later b1
 clear hX hbX c hwX hEX hrow hG hat hr
 go_wp2_with fail
 refine cW.mono ?_
 rintro e w2 ⟨b2,hw⟩
 have hb2:=below_to hb1 b2
 have hX2:=hX1.later b2
 obtain⟨xl,x0,x1,x2,x3,f0,f1,f2,f3⟩:=hX2
 cases hR:wholeR r with
 | error p =>
  rw[hR] at hw
  obtain rfl:=hw
  have HR:Hid (endR r=.error (p,6)):=hid (by unfold endR;rw[hR])
  have hb3:=below_alloc w2 (.cells #[.int .i64 0,.int .i64 0,.string ⟨#[]⟩,.slice none 0 0] 24)
  have hB3:=below_to hb2 hb3
  have hne:¬ w.heap.size=w2.heap.size:=by omega
  have hne2:¬ w2.heap.size=w.heap.size:=by omega
  generalize endR r=RR at *
  obtain rfl:=HR.out
  have hb4:=below_put4 hb2 (Nat.le_refl _) (.int .i64 0) (.int .i64 0) (.string ⟨#[]⟩) (.slice none 0 0)
  have HB4:=hid (hb4.alloc hb4.size (.cells #[.int .i64 0,.int .i64 0,.string ⟨#[]⟩,.slice none 0 0] 24))
  clear cW hX1 b1 b2 hb3 hb1 hb2 hb4
  go_wp2_with fail
  exact bodyPost_ret (v:=.tuple #[EV 0 0 ⟨#[]⟩ (.slice none 0 0),.int .i64 (p:Int),.int .i64 6]) (by simp[results,results16,go_sem,x0,x1,x2,x3,xl]) rfl ⟨HB4.out,rfl⟩
 | ok a =>
  rw[hR] at hw
  obtain⟨op,n,z,ao,c,rfl,hx⟩:=hw
  have hE2:=hE.later hb2
  have hb3:=below_alloc w2 (.cells #[.int .i64 op,.int .i64 n,.string z,.slice ao a.kids.length c] 24)
  have hF:=four_new w2 (.int .i64 op) (.int .i64 n) (.string z) (.slice ao a.kids.length c) 24
  have hx3:=hx.later hb3
  have cC:=pcheck_any a _ _ _ (hE2.later hb3) hx3
  have hne:¬ w.heap.size=w2.heap.size:=by omega
  have hne2:¬ w2.heap.size=w.heap.size:=by omega
  have hB3:=below_to hb2 hb3
  have hX3:=(hX1.later b2).later hb3
  have hs3:=alloc_size w2 (.cells #[.int .i64 op,.int .i64 n,.string z,.slice ao a.kids.length c] 24)
  have h12:w.heap.size<w1.heap.size:=hX1.1
  obtain⟨w3,hw3⟩:∃ w3,w2.alloc (.cells #[.int .i64 op,.int .i64 n,.string z,.slice ao a.kids.length c] 24)=w3:=⟨_,rfl⟩
  rw[hw3] at hF hx3 cC hB3 hX3 hs3
  have hF':=hF
  obtain⟨-,y0,y1,y2,y3,-⟩:=hF'
  cases hc:chkB a with
  | false =>
   have HR:Hid (endR r=.error (0,7)):=hid (by unfold endR;rw[hR];simp[hc])
   generalize endR r=RR at *
   obtain rfl:=HR.out
   rw[hc] at cC
   clear cW hX1 b1 b2 hb3 hb1 hb2 hx hx3 hE2
   go_wp2_with fail
   refine cC.mono ?_
   rintro e w4 ⟨rfl,b4⟩
   have hB4:=below_to hB3 b4
   obtain⟨zl,z0,z1,z2,z3,g0,g1,g2,g3⟩:=hX3.later b4
   have HB5:=hid (below_put4 hB4 (Nat.le_refl _) (.int .i64 0) (.int .i64 0) (.string ⟨#[]⟩) (.slice none 0 0))
   clear cC hX3 hF b4 hB3 hB4 x0 x1 x2 x3 f0 f1 f2 f3 y0 y1 y2 y3 hw3
   go_wp2_with fail
   exact bodyPost_ret (v:=.tuple #[EV 0 0 ⟨#[]⟩ (.slice none 0 0),.int .i64 0,.int .i64 7]) (by simp[results,results16,go_sem,z0,z1,z2,z3]) rfl ⟨HB5.out,rfl⟩
  | true =>
   have HR:Hid (endR r=.ok a):=hid (by unfold endR;rw[hR];simp[hc])
   generalize endR r=RR at *
   obtain rfl:=HR.out
   rw[hc] at cC
   clear cW hX1 b1 b2 hb3 hb1 hb2 hx hE2
   go_wp2_with fail
   refine cC.mono ?_
   rintro e w4 ⟨rfl,b4⟩
   have hB4:=below_to hB3 b4
   obtain⟨zl,z0,z1,z2,z3,g0,g1,g2,g3⟩:=hX3.later b4
   obtain⟨-,y0,y1,y2,y3,-⟩:=hF.later b4
   have HB5:=hid (below_put4 hB4 (Nat.le_refl _) (.int .i64 op) (.int .i64 n) (.string z) (.slice ao a.kids.length c))
   have hx4:=hx3.later b4
   have hx5:=hx4.keep (Stays.set4 w4 (.int .i64 op) (.int .i64 n) (.string z) (.slice ao a.kids.length c) (g:=w.heap.size) (by show ¬ _≤w.heap.size;omega))
   have HX5:=hid (hx5.wide (R:=Up w.heap.size) (fun b hb _=>by have:w1.heap.size≤b:=hb;show w.heap.size≤b;omega))
   clear cC hX3 hF b4 hB3 hB4 hx3 hx4 hx5 x0 x1 x2 x3 f0 f1 f2 f3 hw3
   go_wp2_with fail
   exact bodyPost_ret (v:=.tuple #[EV op n z (.slice ao a.kids.length c),.int .i64 0,.int .i64 0]) (by simp[results,results16,go_sem,z0,z1,z2,z3]) rfl ⟨HB5.out,_,_,_,_,_,rfl,HX5.out⟩
theorem parseF_any (s:ByteArray) (R:Except (Nat × Nat) Ex) (w:World) (hs:s.size≤1099511627776) (hE:EnvP w) (h:Says s.data.toList R) :
  Calls prog 16 #[.string s] w (PaEnd w R):=by
 unfold Says at h
 rw[size_list] at h
 rcases h with ⟨h1,rfl⟩ | ⟨h1,⟨p,h2,rfl⟩ | ⟨ts,r,h2,h3,rfl⟩⟩
 ·exact parse_bad s 400 7 (.inr rfl) w fun w' hb=>lex_deep s w' hs h1 (hE.later hb).env
 ·exact parse_bad s p 5 (.inl rfl) w fun w' hb=>lex_no s p w' h1 h2 (hE.later hb).env
 ·exact parse_good s ts r w h1 h2 h3 hE
end
section
open Go.Lib
def lexF:Nat→List Pc→Nat→Except Nat (List Tk)
 | 0,_,_=>.ok []
 | _+1,[],_=>.ok []
 | f+1,x :: R,p =>
  if classZ (x.1:Int)=3 then lexF f R (p+x.2.length)
  else
   match tokF x R with
   | none=>.error p
   | some t=>ahead [t.tk p] (lexF f (R.drop t.j) (p+(flat (x :: R.take t.j)).length))
theorem lexF_eq:∀ (f:Nat) (R:List Pc) (p:Nat),R.length≤f→lexF f R p=lexR R p
 | 0,R,p,h=>by
  obtain rfl:=List.length_eq_zero_iff.1 (Nat.le_zero.1 h)
  rw[lexF,lexR_nil]
 | f+1,[],p,_=>by rw[lexF,lexR_nil]
 | f+1,x :: R,p,h=>by
  simp only[List.length_cons] at h
  rw[lexF]
  by_cases hc:classZ (x.1:Int)=3
  ·rw[if_pos hc,lexR_blank _ _ _ hc]
   exact lexF_eq f R _ (by omega)
  ·rw[if_neg hc]
   cases ht:tokF x R with
   | none=>rw[lexR_none _ _ _ hc ht]
   | some t =>
    rw[lexR_some _ _ _ hc t ht]
    dsimp only
    rw[lexF_eq f (R.drop t.j) _ (by rw[List.length_drop];omega)]
def lexC (l:List UInt8):Except Nat (List Tk):=lexF (pcs l).length (pcs l) 0
theorem lexC_eq (l:List UInt8):lexC l=lexL l:=lexF_eq _ _ _ (Nat.le_refl _)
def nameC (s:List UInt8):Bool :=
 decide (s.length≤400) && match lexC s with
 | .ok [t]=>t.k == 3 && t.s == s && !isWordL s
 | _=>false
theorem nameC_eq (s:List UInt8):nameC s=nameB s:=by
 unfold nameC nameB
 rw[lexC_eq]
 cases lexL s with
 | error p=>rfl
 | ok ts =>
  match ts with
  | []=>rfl
  | [t]=>rfl
  | _ :: _ :: _=>rfl
def plainC (op n:Int) (s:List UInt8):Bool :=
 if op=1 then decide (0≤n) && s.isEmpty
 else if op=2 then decide (n=0) && textB s
 else if op=3 then decide (n=0∨n=1) && s.isEmpty
 else if op=4 then decide (n=0) && nameC s
 else decide (n=0) && s.isEmpty
theorem plainC_eq (op n:Int) (s:List UInt8):plainC op n s=plainB op n s:=by
 unfold plainC plainB;rw[nameC_eq]
mutual
def allC:Ex→Bool
 | .mk op n s ks=>(decide (arity op=some ks.length) && plainC op n s && hasB op ks) && allCL ks
def allCL:List Ex→Bool
 | []=>true
 | e :: es=>allC e && allCL es
end
mutual
theorem allC_eq:∀ e:Ex,allC e=allB e
 | .mk op n s ks=>by rw[allC,allB,allCL_eq ks,plainC_eq];rfl
theorem allCL_eq:∀ es:List Ex,allCL es=allBL es
 | []=>rfl
 | e :: es=>by rw[allCL,allBL,allC_eq e,allCL_eq es]
end
def chkC (e:Ex):Bool:=decide (nodes e≤128) && decide (deepE e≤24) && allC e
theorem chkC_eq (e:Ex):chkC e=chkB e:=by unfold chkC chkB;rw[allC_eq]
def runC (f:Nat) (l:List UInt8):Option (Except (Nat × Nat) Ex) :=
 if 400<l.length then some (.error (400,7))
 else match lexC l with
 | .error p=>some (.error (p,5))
 | .ok ts =>
  match pE f 0 (ts++[endT l.length]) with
  | none=>none
  | some r =>
   match wholeR r with
   | .error p=>some (.error (p,6))
   | .ok a=>some (if chkC a then .ok a else .error (0,7))
theorem runC_says {f:Nat} {l:List UInt8} {R:Except (Nat × Nat) Ex} (h:runC f l=some R):Says l R:=by
 unfold runC at h
 by_cases h4:400<l.length
 ·rw[if_pos h4] at h
  injection h with h
  exact .inl ⟨h4,h.symm⟩
 ·rw[if_neg h4,lexC_eq] at h
  refine .inr ⟨by omega,?_⟩
  cases hl:lexL l with
  | error p =>
   rw[hl] at h
   injection h with h
   exact .inl ⟨p,rfl,h.symm⟩
  | ok ts =>
   rw[hl] at h
   dsimp only at h
   cases hp:pE f 0 (ts++[endT l.length]) with
   | none=>rw[hp] at h;cases h
   | some r =>
    rw[hp] at h
    dsimp only at h
    refine .inr ⟨ts,r,rfl,⟨f,hp⟩,?_⟩
    unfold endR
    cases hw:wholeR r with
    | error p=>rw[hw] at h;injection h with h;exact h.symm
    | ok a =>
     rw[hw] at h
     injection h with h
     dsimp only
     rw[← chkC_eq]
     exact h.symm
end
section
open _root_.Go.Proofs.Tryz
open Go.RowKit
def PaV (B:Nat) (w':World) (R:Except (Nat × Nat) Ex) (op n:Int) (z:ByteArray) (ao:Option Addr) (l c:Nat) (p f:Int):Prop :=
 match R with
 | .ok a=>p=0∧f=0∧ExIn w' (Up B) a (EV op n z (.slice ao l c))
 | .error q=>p=(q.1:Int)∧f=(q.2:Int)
theorem PaEnd.vals {w w':World} {R:Except (Nat × Nat) Ex} {e:Ending} (h:PaEnd w R e w') :
  Below w.heap.size w w'∧∃ op n z ao l c p f,e=.returned (.tuple #[EV op n z (.slice ao l c),.int .i64 p,.int .i64 f])∧PaV w.heap.size w' R op n z ao l c p f:=by
 obtain⟨hb,h⟩:=h
 refine⟨hb,?_⟩
 cases R with
 | ok a =>
  obtain⟨op,n,z,ao,c,rfl,hx⟩:=h
  exact⟨op,n,z,ao,_,c,0,0,rfl,rfl,rfl,hx⟩
 | error q =>
  obtain rfl:=h
  exact⟨0,0,⟨#[]⟩,none,0,0,_,_,rfl,rfl,rfl⟩
theorem PaV.later {B:Nat} {w' w'':World} {R:Except (Nat × Nat) Ex} {op n:Int} {z:ByteArray} {ao:Option Addr} {l c:Nat} {p f:Int} (h:PaV B w' R op n z ao l c p f) (hb:Below w'.heap.size w' w''):PaV B w'' R op n z ao l c p f:=by
 cases R with
 | ok a=>exact⟨h.1,h.2.1,h.2.2.later hb⟩
 | error q=>exact h
theorem PaV.wide {B C:Nat} {w':World} {R:Except (Nat × Nat) Ex} {op n:Int} {z:ByteArray} {ao:Option Addr} {l c:Nat} {p f:Int} (h:PaV B w' R op n z ao l c p f) (hb:C≤B):PaV C w' R op n z ao l c p f:=by
 cases R with
 | ok a=>exact⟨h.1,h.2.1,h.2.2.wide (fun b hB _=>Nat.le_trans hb hB)⟩
 | error q=>exact h
theorem PaV.set4 {B g:Nat} {w':World} {R:Except (Nat × Nat) Ex} {op n:Int} {z:ByteArray} {ao:Option Addr} {l c:Nat} {p f:Int} (h:PaV B w' R op n z ao l c p f) (hg:g<B) (x0 x1 x2 x3:Value):PaV B (set4 w' g x0 x1 x2 x3) R op n z ao l c p f:=by
 cases R with
 | ok a=>exact⟨h.1,h.2.1,h.2.2.keep (Stays.set4 w' x0 x1 x2 x3 (g:=g) (by show ¬ _≤g;omega))⟩
 | error q=>exact h
theorem parse_vals (s:ByteArray) (R:Except (Nat × Nat) Ex) (w:World) (hs:s.size≤1099511627776) (hE:EnvP w) (h:Says s.data.toList R) :
  Calls prog 16 #[.string s] w fun e w'=>Below w.heap.size w w'∧∃ op n z ao l c p f,e=.returned (.tuple #[EV op n z (.slice ao l c),.int .i64 p,.int .i64 f])∧PaV w.heap.size w' R op n z ao l c p f :=
 (parseF_any s R w hs hE h).mono fun _ _ h=>h.vals
end
end Go.Proofs.YtbbblmedoagncaaGreatDoor
