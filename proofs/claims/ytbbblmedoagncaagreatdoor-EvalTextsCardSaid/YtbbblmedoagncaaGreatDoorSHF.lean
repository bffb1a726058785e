/- RChkB, RChk -/
import Derived.Test.YtbbblmedoagncaaGreatDoorSGW
namespace Go.Proofs.YtbbblmedoagncaaGreatDoor
section
open Lib (hid)
open _root_.Go.Proofs.Tryz
set_option maxHeartbeats 4000000
set_option maxRecDepth 100000
open Go.RowKit
def LookEnd (w:World) (g:Nat) (d:Nat) (n:Int) (e:Ex) (en:Ending) (w':World):Prop :=
 ∃ m:Int,en=.returned (.bool (lookE n d e))∧Away g w w'∧Cnt w' g m∧n≤m∧m≤129∧(lookE n d e=true→m=n+(nodes e:Int))
def KLook (w:World) (g:Nat) (d:Nat) (n:Int) (hk:Bool) (ks:List Ex) (R:Bool) (j:Nat) (wr:World):Prop :=
 ∃ m:Int,Cnt wr g m∧Away g w wr∧m≤128∧n+1≤m∧m+(nodesL (ks.drop j):Int)=n+1+(nodesL ks:Int)∧lookL hk m (d+1) (ks.drop j)=R
theorem away_dr {g:Nat} {w w':World} (h:Away g w w') (q:Nat):Away g w (w'.drewN q):=⟨h.os,h.tape,h.output,h.size,h.block⟩
theorem cnt_dr {w:World} {g:Nat} {n:Int} (h:Cnt w g n) (q:Nat):Cnt (w.drewN q) g n:=h
theorem arityZ_ok {op:Int} {k:Nat} (h:arity op=some k):arityZ op=(k:Int):=by unfold arityZ;rw[h]
theorem arityZ_no {op:Int} (h:arity op=none):arityZ op=-1:=by unfold arityZ;rw[h]
theorem look_bad1 (op m:Int) (s:List UInt8) (ks:List Ex) (v:Value) (S:Nat→Prop) (w:World) (d:Nat) (n:Int) (g:Nat) (hv:ExIn w S (.mk op m s ks) v) (_hSg:¬ S g) (hC:Cnt w g n) (hn0:0≤n) (hn1:n≤128)
  (hEa:∀ w',Away g w w'→EnvP w') (hn:128<n+1) :
  Calls prog 32 #[v,.int .i64 (d:Int),.pointer (some ⟨g,0,none⟩)] w (LookEnd w g d n (.mk op m s ks)):=by
  have hvv:=hv
  obtain⟨ao,cap,rfl,h2,h3,hr,hk⟩:=hv.get
  unfold Ex.op Ex.num Ex.str Ex.kids at *
  dsimp only at *
  have hgw:=hC.lt
  have hX:=four_new w (.int .i64 op) (.int .i64 m) (.string ⟨s.toArray⟩) (.slice ao ks.length cap) 24
  have hbX:=below_alloc w (.cells #[.int .i64 op,.int .i64 m,.string ⟨s.toArray⟩,.slice ao ks.length cap] 24)
  have hCX:=hC.later hbX
  have hsX:=alloc_size w (.cells #[.int .i64 op,.int .i64 m,.string ⟨s.toArray⟩,.slice ao ks.length cap] 24)
  have hkX:0<ks.length→∃ g2 o,ao=some ⟨g2,o,none⟩∧S g2∧g2<(w.alloc (.cells #[.int .i64 op,.int .i64 m,.string ⟨s.toArray⟩,.slice ao ks.length cap] 24)).heap.size∧RowIn (w.alloc (.cells #[.int .i64 op,.int .i64 m,.string ⟨s.toArray⟩,.slice ao ks.length cap] 24)) S g2 o ks:=fun h0=>by
   obtain⟨g2,o,a,b,c,r⟩:=hk h0
   exact⟨g2,o,a,b,Nat.lt_of_lt_of_le c hbX.size,RowIn.stays (.of hbX) ks g2 o b c r⟩
  obtain⟨wX,hwX⟩:∃ wX,w.alloc (.cells #[.int .i64 op,.int .i64 m,.string ⟨s.toArray⟩,.slice ao ks.length cap] 24)=wX:=⟨_,rfl⟩
  rw[hwX] at hX hbX hCX hkX hsX
  have c0:=hCX.cell
  have f0:=hCX.fr
  have hwr:IntKind.i64.wrap (n+1)=n+1:=IntWalk.i64_in _ (by omega)
  have hC1:=hCX.set (n+1)
  have hA1:=(Away.refl g wX).set 0 (.int .i64 (n+1))
  have hX1:=hX.away hA1 (by omega)
  have hEX:∀ w',Away g wX w'→EnvP w':=fun w' h=>hEa w' ((Away.of hbX (g:=g)).trans h)
  have HEX:=hid hEX
  have HEND:Hid (∀ (q:Int) (w':World),Away g wX w'→Cnt w' g q→n≤q→q≤129→lookE n d (.mk op m s ks)=false→LookEnd w g d n (.mk op m s ks) (.returned (.bool false)) w'):=hid (fun q w' ha hc h1 h2 h3 =>
   ⟨q,by rw[h3],(Away.of hbX (g:=g)).trans ha,hc,h1,h2,fun h=>by rw[h3] at h;cases h⟩)
  have HYES:Hid (∀ (q:Int) (w':World),Away g wX w'→Cnt w' g q→n≤q→q≤129→lookE n d (.mk op m s ks)=true→q=n+1+(nodesL ks:Int)→LookEnd w g d n (.mk op m s ks) (.returned (.bool true)) w'):=hid (fun q w' ha hc h1 h2 h3 h4 =>
   ⟨q,by rw[h3],(Away.of hbX (g:=g)).trans ha,hc,h1,h2,fun _=>by rw[nodes];push_cast;omega⟩)
  have HC1:=hid hC1
  have HA1:=hid hA1
  have HX1:=hid hX1
  obtain⟨-,y0,y1,y2,y3,-⟩:=hX1
  have hX':=hX
  obtain⟨-,x0,x1,x2,x3,-⟩:=hX'
  have cA:=fun w=>arity_any op w
  have G:=hid (show n≤n+1∧n+1≤129 by omega)
  have HL:=hid (lookE_bad (m:=n) (d:=d) (op:=op) (n:=m) (s:=s) (ks:=ks) (.inl hn))
  clear hX hvv hv hk hkX hC hCX hC1 hA1 hbX hEX hEa cA
  go_enter func32,ntmps32
  go_wp2_with fail
  go_quiet (fail)
  go_wp2_with fail
  exact bodyPost_ret (v:=.bool false) (by simp[results,results32,go_sem]) rfl (HEND.out (n+1) _ (away_dr HA1.out _) (cnt_dr HC1.out _) G.out.1 G.out.2 HL.out)
theorem look_bad2 (op m:Int) (s:List UInt8) (ks:List Ex) (v:Value) (S:Nat→Prop) (w:World) (d:Nat) (n:Int) (g:Nat) (hv:ExIn w S (.mk op m s ks) v) (_hSg:¬ S g) (hC:Cnt w g n) (hn0:0≤n) (hn1:n≤128)
  (hEa:∀ w',Away g w w'→EnvP w') (hn:¬ 128<n+1) (hd:24<d) :
  Calls prog 32 #[v,.int .i64 (d:Int),.pointer (some ⟨g,0,none⟩)] w (LookEnd w g d n (.mk op m s ks)):=by
  have hvv:=hv
  obtain⟨ao,cap,rfl,h2,h3,hr,hk⟩:=hv.get
  unfold Ex.op Ex.num Ex.str Ex.kids at *
  dsimp only at *
  have hgw:=hC.lt
  have hX:=four_new w (.int .i64 op) (.int .i64 m) (.string ⟨s.toArray⟩) (.slice ao ks.length cap) 24
  have hbX:=below_alloc w (.cells #[.int .i64 op,.int .i64 m,.string ⟨s.toArray⟩,.slice ao ks.length cap] 24)
  have hCX:=hC.later hbX
  have hsX:=alloc_size w (.cells #[.int .i64 op,.int .i64 m,.string ⟨s.toArray⟩,.slice ao ks.length cap] 24)
  have hkX:0<ks.length→∃ g2 o,ao=some ⟨g2,o,none⟩∧S g2∧g2<(w.alloc (.cells #[.int .i64 op,.int .i64 m,.string ⟨s.toArray⟩,.slice ao ks.length cap] 24)).heap.size∧RowIn (w.alloc (.cells #[.int .i64 op,.int .i64 m,.string ⟨s.toArray⟩,.slice ao ks.length cap] 24)) S g2 o ks:=fun h0=>by
   obtain⟨g2,o,a,b,c,r⟩:=hk h0
   exact⟨g2,o,a,b,Nat.lt_of_lt_of_le c hbX.size,RowIn.stays (.of hbX) ks g2 o b c r⟩
  obtain⟨wX,hwX⟩:∃ wX,w.alloc (.cells #[.int .i64 op,.int .i64 m,.string ⟨s.toArray⟩,.slice ao ks.length cap] 24)=wX:=⟨_,rfl⟩
  rw[hwX] at hX hbX hCX hkX hsX
  have c0:=hCX.cell
  have f0:=hCX.fr
  have hwr:IntKind.i64.wrap (n+1)=n+1:=IntWalk.i64_in _ (by omega)
  have hC1:=hCX.set (n+1)
  have hA1:=(Away.refl g wX).set 0 (.int .i64 (n+1))
  have hX1:=hX.away hA1 (by omega)
  have hEX:∀ w',Away g wX w'→EnvP w':=fun w' h=>hEa w' ((Away.of hbX (g:=g)).trans h)
  have HEX:=hid hEX
  have HEND:Hid (∀ (q:Int) (w':World),Away g wX w'→Cnt w' g q→n≤q→q≤129→lookE n d (.mk op m s ks)=false→LookEnd w g d n (.mk op m s ks) (.returned (.bool false)) w'):=hid (fun q w' ha hc h1 h2 h3 =>
   ⟨q,by rw[h3],(Away.of hbX (g:=g)).trans ha,hc,h1,h2,fun h=>by rw[h3] at h;cases h⟩)
  have HYES:Hid (∀ (q:Int) (w':World),Away g wX w'→Cnt w' g q→n≤q→q≤129→lookE n d (.mk op m s ks)=true→q=n+1+(nodesL ks:Int)→LookEnd w g d n (.mk op m s ks) (.returned (.bool true)) w'):=hid (fun q w' ha hc h1 h2 h3 h4 =>
   ⟨q,by rw[h3],(Away.of hbX (g:=g)).trans ha,hc,h1,h2,fun _=>by rw[nodes];push_cast;omega⟩)
  have HC1:=hid hC1
  have HA1:=hid hA1
  have HX1:=hid hX1
  obtain⟨-,y0,y1,y2,y3,-⟩:=hX1
  have hX':=hX
  obtain⟨-,x0,x1,x2,x3,-⟩:=hX'
  have cA:=fun w=>arity_any op w
  have G:=hid (show n≤n+1∧n+1≤129 by omega)
  have HL:=hid (lookE_bad (m:=n) (d:=d) (op:=op) (n:=m) (s:=s) (ks:=ks) (.inr (.inl hd)))
  have hdz:(24:Int)<(d:Int):=by omega
  clear hX hvv hv hk hkX hC hCX hC1 hA1 hbX hEX hEa cA
  go_enter func32,ntmps32
  go_wp2_with fail
  go_quiet (fail)
  go_wp2_with fail
  exact bodyPost_ret (v:=.bool false) (by simp[results,results32,go_sem]) rfl (HEND.out (n+1) _ (away_dr HA1.out _) (cnt_dr HC1.out _) G.out.1 G.out.2 HL.out)
theorem look_bad3 (op m:Int) (s:List UInt8) (ks:List Ex) (v:Value) (S:Nat→Prop) (w:World) (d:Nat) (n:Int) (g:Nat) (hv:ExIn w S (.mk op m s ks) v) (_hSg:¬ S g) (hC:Cnt w g n) (hn0:0≤n) (hn1:n≤128)
  (hEa:∀ w',Away g w w'→EnvP w') (hn:¬ 128<n+1) (hd:¬ 24<d) (har:arity op=none) :
  Calls prog 32 #[v,.int .i64 (d:Int),.pointer (some ⟨g,0,none⟩)] w (LookEnd w g d n (.mk op m s ks)):=by
  have hvv:=hv
  obtain⟨ao,cap,rfl,h2,h3,hr,hk⟩:=hv.get
  unfold Ex.op Ex.num Ex.str Ex.kids at *
  dsimp only at *
  have hgw:=hC.lt
  have hX:=four_new w (.int .i64 op) (.int .i64 m) (.string ⟨s.toArray⟩) (.slice ao ks.length cap) 24
  have hbX:=below_alloc w (.cells #[.int .i64 op,.int .i64 m,.string ⟨s.toArray⟩,.slice ao ks.length cap] 24)
  have hCX:=hC.later hbX
  have hsX:=alloc_size w (.cells #[.int .i64 op,.int .i64 m,.string ⟨s.toArray⟩,.slice ao ks.length cap] 24)
  have hkX:0<ks.length→∃ g2 o,ao=some ⟨g2,o,none⟩∧S g2∧g2<(w.alloc (.cells #[.int .i64 op,.int .i64 m,.string ⟨s.toArray⟩,.slice ao ks.length cap] 24)).heap.size∧RowIn (w.alloc (.cells #[.int .i64 op,.int .i64 m,.string ⟨s.toArray⟩,.slice ao ks.length cap] 24)) S g2 o ks:=fun h0=>by
   obtain⟨g2,o,a,b,c,r⟩:=hk h0
   exact⟨g2,o,a,b,Nat.lt_of_lt_of_le c hbX.size,RowIn.stays (.of hbX) ks g2 o b c r⟩
  obtain⟨wX,hwX⟩:∃ wX,w.alloc (.cells #[.int .i64 op,.int .i64 m,.string ⟨s.toArray⟩,.slice ao ks.length cap] 24)=wX:=⟨_,rfl⟩
  rw[hwX] at hX hbX hCX hkX hsX
  have c0:=hCX.cell
  have f0:=hCX.fr
  have hwr:IntKind.i64.wrap (n+1)=n+1:=IntWalk.i64_in _ (by omega)
  have hC1:=hCX.set (n+1)
  have hA1:=(Away.refl g wX).set 0 (.int .i64 (n+1))
  have hX1:=hX.away hA1 (by omega)
  have hEX:∀ w',Away g wX w'→EnvP w':=fun w' h=>hEa w' ((Away.of hbX (g:=g)).trans h)
  have HEX:=hid hEX
  have HEND:Hid (∀ (q:Int) (w':World),Away g wX w'→Cnt w' g q→n≤q→q≤129→lookE n d (.mk op m s ks)=false→LookEnd w g d n (.mk op m s ks) (.returned (.bool false)) w'):=hid (fun q w' ha hc h1 h2 h3 =>
   ⟨q,by rw[h3],(Away.of hbX (g:=g)).trans ha,hc,h1,h2,fun h=>by rw[h3] at h;cases h⟩)
  have HYES:Hid (∀ (q:Int) (w':World),Away g wX w'→Cnt w' g q→n≤q→q≤129→lookE n d (.mk op m s ks)=true→q=n+1+(nodesL ks:Int)→LookEnd w g d n (.mk op m s ks) (.returned (.bool true)) w'):=hid (fun q w' ha hc h1 h2 h3 h4 =>
   ⟨q,by rw[h3],(Away.of hbX (g:=g)).trans ha,hc,h1,h2,fun _=>by rw[nodes];push_cast;omega⟩)
  have HC1:=hid hC1
  have HA1:=hid hA1
  have HX1:=hid hX1
  obtain⟨-,y0,y1,y2,y3,-⟩:=hX1
  have hX':=hX
  obtain⟨-,x0,x1,x2,x3,-⟩:=hX'
  have cA:=fun w=>arity_any op w
  have G:=hid (show n≤n+1∧n+1≤129 by omega)
  have HL:=hid (lookE_bad (m:=n) (d:=d) (op:=op) (n:=m) (s:=s) (ks:=ks) (.inr (.inr (.inl (by rw[har];simp)))))
  have hdz:¬ (24:Int)<(d:Int):=by omega
  rw[arityZ_no har] at cA
  clear hX hvv hv hk hkX hC hCX hC1 hA1 hbX hEX hEa har
  go_enter func32,ntmps32
  go_wp2_with fail
  go_quiet ((go_at_call 72;exact (cA _).mono fun _ _ h=>⟨h.1,_,h.2.symm⟩))
  go_wp2_with fail
  exact bodyPost_ret (v:=.bool false) (by simp[results,results32,go_sem]) rfl (HEND.out (n+1) _ (away_dr HA1.out _) (cnt_dr HC1.out _) G.out.1 G.out.2 HL.out)
theorem look_bad4 (op m:Int) (s:List UInt8) (ks:List Ex) (v:Value) (S:Nat→Prop) (w:World) (d:Nat) (n:Int) (g:Nat) (hv:ExIn w S (.mk op m s ks) v) (_hSg:¬ S g) (hC:Cnt w g n) (hn0:0≤n) (hn1:n≤128)
  (hEa:∀ w',Away g w w'→EnvP w') (k:Nat) (hn:¬ 128<n+1) (hd:¬ 24<d) (har:arity op=some k) (hkl:¬ ks.length=k) :
  Calls prog 32 #[v,.int .i64 (d:Int),.pointer (some ⟨g,0,none⟩)] w (LookEnd w g d n (.mk op m s ks)):=by
  have hvv:=hv
  obtain⟨ao,cap,rfl,h2,h3,hr,hk⟩:=hv.get
  unfold Ex.op Ex.num Ex.str Ex.kids at *
  dsimp only at *
  have hgw:=hC.lt
  have hX:=four_new w (.int .i64 op) (.int .i64 m) (.string ⟨s.toArray⟩) (.slice ao ks.length cap) 24
  have hbX:=below_alloc w (.cells #[.int .i64 op,.int .i64 m,.string ⟨s.toArray⟩,.slice ao ks.length cap] 24)
  have hCX:=hC.later hbX
  have hsX:=alloc_size w (.cells #[.int .i64 op,.int .i64 m,.string ⟨s.toArray⟩,.slice ao ks.length cap] 24)
  have hkX:0<ks.length→∃ g2 o,ao=some ⟨g2,o,none⟩∧S g2∧g2<(w.alloc (.cells #[.int .i64 op,.int .i64 m,.string ⟨s.toArray⟩,.slice ao ks.length cap] 24)).heap.size∧RowIn (w.alloc (.cells #[.int .i64 op,.int .i64 m,.string ⟨s.toArray⟩,.slice ao ks.length cap] 24)) S g2 o ks:=fun h0=>by
   obtain⟨g2,o,a,b,c,r⟩:=hk h0
   exact⟨g2,o,a,b,Nat.lt_of_lt_of_le c hbX.size,RowIn.stays (.of hbX) ks g2 o b c r⟩
  obtain⟨wX,hwX⟩:∃ wX,w.alloc (.cells #[.int .i64 op,.int .i64 m,.string ⟨s.toArray⟩,.slice ao ks.length cap] 24)=wX:=⟨_,rfl⟩
  rw[hwX] at hX hbX hCX hkX hsX
  have c0:=hCX.cell
  have f0:=hCX.fr
  have hwr:IntKind.i64.wrap (n+1)=n+1:=IntWalk.i64_in _ (by omega)
  have hC1:=hCX.set (n+1)
  have hA1:=(Away.refl g wX).set 0 (.int .i64 (n+1))
  have hX1:=hX.away hA1 (by omega)
  have hEX:∀ w',Away g wX w'→EnvP w':=fun w' h=>hEa w' ((Away.of hbX (g:=g)).trans h)
  have HEX:=hid hEX
  have HEND:Hid (∀ (q:Int) (w':World),Away g wX w'→Cnt w' g q→n≤q→q≤129→lookE n d (.mk op m s ks)=false→LookEnd w g d n (.mk op m s ks) (.returned (.bool false)) w'):=hid (fun q w' ha hc h1 h2 h3 =>
   ⟨q,by rw[h3],(Away.of hbX (g:=g)).trans ha,hc,h1,h2,fun h=>by rw[h3] at h;cases h⟩)
  have HYES:Hid (∀ (q:Int) (w':World),Away g wX w'→Cnt w' g q→n≤q→q≤129→lookE n d (.mk op m s ks)=true→q=n+1+(nodesL ks:Int)→LookEnd w g d n (.mk op m s ks) (.returned (.bool true)) w'):=hid (fun q w' ha hc h1 h2 h3 h4 =>
   ⟨q,by rw[h3],(Away.of hbX (g:=g)).trans ha,hc,h1,h2,fun _=>by rw[nodes];push_cast;omega⟩)
  have HC1:=hid hC1
  have HA1:=hid hA1
  have HX1:=hid hX1
  obtain⟨-,y0,y1,y2,y3,-⟩:=hX1
  have hX':=hX
  obtain⟨-,x0,x1,x2,x3,-⟩:=hX'
  have cA:=fun w=>arity_any op w
  have G:=hid (show n≤n+1∧n+1≤129 by omega)
  have HL:=hid (lookE_bad (m:=n) (d:=d) (op:=op) (n:=m) (s:=s) (ks:=ks) (.inr (.inr (.inl (by rw[har];intro h;injection h with h;exact hkl h.symm)))))
  have hdz:¬ (24:Int)<(d:Int):=by omega
  rw[arityZ_ok har] at cA
  have hk0:¬ (k:Int)<0:=by omega
  have hln0:¬ (ks.length:Int)=(k:Int):=fun h=>hkl (Int.ofNat.inj h)
  have hln:((ks.length:Int) == (k:Int))=false:=beq_eq_false_iff_ne.2 hln0
  have hln3:((ks.length:Int) != (k:Int))=true:=bne_iff_ne.2 hln0
  have hln4:decide (ks.length=k)=false:=decide_eq_false hkl
  clear hX hvv hv hk hkX hC hCX hC1 hA1 hbX hEX hEa har
  go_enter func32,ntmps32
  go_wp2_with fail
  go_quiet ((go_at_call 72;exact (cA _).mono fun _ _ h=>⟨h.1,_,h.2.symm⟩))
  go_wp2_with fail
  exact bodyPost_ret (v:=.bool false) (by simp[results,results32,go_sem]) rfl (HEND.out (n+1) _ (away_dr HA1.out _) (cnt_dr HC1.out _) G.out.1 G.out.2 HL.out)
end
section
open Lib (hid)
open _root_.Go.Proofs.Tryz
set_option maxHeartbeats 40000000
set_option maxRecDepth 100000
open Go.RowKit
theorem look_main (op m:Int) (s:List UInt8) (ks:List Ex) (v:Value) (S:Nat→Prop) (w:World) (d:Nat) (n:Int) (g:Nat) (hv:ExIn w S (.mk op m s ks) v) (hSg:¬ S g) (hC:Cnt w g n) (hn0:0≤n) (hn1:n≤128)
  (hEa:∀ w',Away g w w'→EnvP w') (hn:¬ 128<n+1) (hd:¬ 24<d) (har:arity op=some ks.length)
  (IH:∀ e ∈ ks,∀ (v:Value) (S:Nat→Prop) (w:World) (d:Nat) (n:Int) (g:Nat),ExIn w S e v→¬ S g→Cnt w g n→0≤n→n≤128→d≤25→(∀ w',Away g w w'→EnvP w')→Calls prog 32 #[v,.int .i64 (d:Int),.pointer (some ⟨g,0,none⟩)] w (LookEnd w g d n e)) :
  Calls prog 32 #[v,.int .i64 (d:Int),.pointer (some ⟨g,0,none⟩)] w (LookEnd w g d n (.mk op m s ks)):=by
  have hvv:=hv
  obtain⟨ao,cap,rfl,h2,h3,hr,hk⟩:=hv.get
  unfold Ex.op Ex.num Ex.str Ex.kids at *
  dsimp only at *
  have hgw:=hC.lt
  have hX:=four_new w (.int .i64 op) (.int .i64 m) (.string ⟨s.toArray⟩) (.slice ao ks.length cap) 24
  have hbX:=below_alloc w (.cells #[.int .i64 op,.int .i64 m,.string ⟨s.toArray⟩,.slice ao ks.length cap] 24)
  have hCX:=hC.later hbX
  have hsX:=alloc_size w (.cells #[.int .i64 op,.int .i64 m,.string ⟨s.toArray⟩,.slice ao ks.length cap] 24)
  have hkX:0<ks.length→∃ g2 o,ao=some ⟨g2,o,none⟩∧S g2∧g2<(w.alloc (.cells #[.int .i64 op,.int .i64 m,.string ⟨s.toArray⟩,.slice ao ks.length cap] 24)).heap.size∧RowIn (w.alloc (.cells #[.int .i64 op,.int .i64 m,.string ⟨s.toArray⟩,.slice ao ks.length cap] 24)) S g2 o ks:=fun h0=>by
   obtain⟨g2,o,a,b,c,r⟩:=hk h0
   exact⟨g2,o,a,b,Nat.lt_of_lt_of_le c hbX.size,RowIn.stays (.of hbX) ks g2 o b c r⟩
  obtain⟨wX,hwX⟩:∃ wX,w.alloc (.cells #[.int .i64 op,.int .i64 m,.string ⟨s.toArray⟩,.slice ao ks.length cap] 24)=wX:=⟨_,rfl⟩
  rw[hwX] at hX hbX hCX hkX hsX
  have c0:=hCX.cell
  have f0:=hCX.fr
  have hwr:IntKind.i64.wrap (n+1)=n+1:=IntWalk.i64_in _ (by omega)
  have hC1:=hCX.set (n+1)
  have hA1:=(Away.refl g wX).set 0 (.int .i64 (n+1))
  have hX1:=hX.away hA1 (by omega)
  have hEX:∀ w',Away g wX w'→EnvP w':=fun w' h=>hEa w' ((Away.of hbX (g:=g)).trans h)
  have HEX:=hid hEX
  have HEND:Hid (∀ (q:Int) (w':World),Away g wX w'→Cnt w' g q→n≤q→q≤129→lookE n d (.mk op m s ks)=false→LookEnd w g d n (.mk op m s ks) (.returned (.bool false)) w'):=hid (fun q w' ha hc h1 h2 h3 =>
   ⟨q,by rw[h3],(Away.of hbX (g:=g)).trans ha,hc,h1,h2,fun h=>by rw[h3] at h;cases h⟩)
  have HYES:Hid (∀ (q:Int) (w':World),Away g wX w'→Cnt w' g q→n≤q→q≤129→lookE n d (.mk op m s ks)=true→q=n+1+(nodesL ks:Int)→LookEnd w g d n (.mk op m s ks) (.returned (.bool true)) w'):=hid (fun q w' ha hc h1 h2 h3 h4 =>
   ⟨q,by rw[h3],(Away.of hbX (g:=g)).trans ha,hc,h1,h2,fun _=>by rw[nodes];push_cast;omega⟩)
  have HC1:=hid hC1
  have HA1:=hid hA1
  have HX1:=hid hX1
  obtain⟨-,y0,y1,y2,y3,-⟩:=hX1
  have hX':=hX
  obtain⟨-,x0,x1,x2,x3,-⟩:=hX'
  have cA:=fun w=>arity_any op w
  have G:=hid (show n≤n+1∧n+1≤129 by omega)
  have hdz:¬ (24:Int)<(d:Int):=by omega
  rw[arityZ_ok har] at cA
  have hk0:¬ (ks.length:Int)<0:=by omega
  have hln:((ks.length:Int) == (ks.length:Int))=true:=by simp
  obtain⟨P,hP⟩:∃ P,plainB op m s=P:=⟨_,rfl⟩
  have cP:=fun w' (hw:EnvP w')=>rplain_any op m s (.slice ao ks.length cap) w' hw (by have:=hr.2.2;omega)
  rw[hP] at cP
  have hEN:∀ w',Below (wX.setCell ⟨g,0,none⟩ (.int .i64 (n+1))).heap.size (wX.setCell ⟨g,0,none⟩ (.int .i64 (n+1))) w'→EnvP w':=fun w' h=>hEX w' (hA1.trans (.of h))
  have HR0:P=true→Hid (KLook wX g d n (op == 22) ks (lookE n d (.mk op m s ks)) 0 (wX.setCell ⟨g,0,none⟩ (.int .i64 (n+1)))):=fun hp=>hid ⟨n+1,hC1,hA1,by omega,by omega,by rw[List.drop_zero],by
   rw[List.drop_zero,lookE_mk n d op m s ks (by omega) (by omega) har (by rw[hP];exact hp)]⟩
  have HL0:P=false→Hid (lookE n d (.mk op m s ks)=false):=fun hp=>hid (lookE_bad (.inr (.inr (.inr (by rw[hP];exact hp)))))
  have hgY:g<(wX.setCell ⟨g,0,none⟩ (.int .i64 (n+1))).heap.size:=hC1.lt
  have HK:=hid hkX
  have HX:=hid hX
  have HSg:=hid hSg
  have hgX:g<wX.heap.size:=by omega
  generalize hwY:wX.setCell ⟨g,0,none⟩ (.int .i64 (n+1))=wY at *
  obtain⟨RR,hRR⟩:∃ RR,lookE n d (.mk op m s ks)=RR:=⟨_,rfl⟩
  have HRR:=hid hRR
  rw[hRR] at HR0 HL0
  have k0:=HC1.out.cell
  clear hX hvv hv hk hkX hC hCX hC1 hA1 hbX hEX hEa har hP hRR hSg
  generalize (⟨s.toArray⟩:ByteArray)=T at *
  go_enter func32,ntmps32
  go_wp2_with fail
  refine wp_region_held_drew (S:=fun w'=>Below wY.heap.size wY w') (by kernel_rfl) ((Below.refl _ _).drew) (fun hHeld=>?_)
  refine held_take (i:=0) (v:=?_) rfl (by kernel_rfl) (by kernel_rfl) (by kernel_rfl) (fun _ _ _ h=>h) (by rfl) hHeld ?_ ?_
  rotate_left
  ·intro wz hSz;go_simp;try with_reducible rfl
  simp only[Act.put,List.setIfInBounds_toArray,List.set_cons_zero,List.set_cons_succ]
  refine held_take (i:=1) (v:=?_) rfl (by kernel_rfl) (by kernel_rfl) (by kernel_rfl) (fun _ _ _ h=>h) (by rfl) hHeld ?_ ?_
  rotate_left
  ·intro wz hSz;go_simp;try with_reducible rfl
  simp only[Act.put,List.setIfInBounds_toArray,List.set_cons_zero,List.set_cons_succ]
  refine held_take (i:=2) (v:=?_) rfl (by kernel_rfl) (by kernel_rfl) (by kernel_rfl) (fun _ _ _ h=>h) (by rfl) hHeld ?_ ?_
  rotate_left
  ·intro wz hSz;have q0:=(hSz.cell (p:=⟨g,0,none⟩) hgY).trans k0;go_simp;try with_reducible rfl
  simp only[Act.put,List.setIfInBounds_toArray,List.set_cons_zero,List.set_cons_succ]
  refine held_take (i:=3) (v:=.bool false) rfl (by kernel_rfl) (by kernel_rfl) (by kernel_rfl) (fun _ _ _ h=>h) (by rfl) hHeld ?_ ?_
  ·intro wz hSz;(go_simp;first | done | rfl | simp[hn])
  simp only[Act.put,List.setIfInBounds_toArray,List.set_cons_zero,List.set_cons_succ]
  refine held_take (i:=4) (v:=?_) rfl (by kernel_rfl) (by kernel_rfl) (by kernel_rfl) (fun _ _ _ h=>h) (by rfl) hHeld ?_ ?_
  rotate_left
  ·intro wz hSz;go_simp;try with_reducible rfl
  simp only[Act.put,List.setIfInBounds_toArray,List.set_cons_zero,List.set_cons_succ]
  refine held_take (i:=5) (v:=?_) rfl (by kernel_rfl) (by kernel_rfl) (by kernel_rfl) (fun _ _ _ h=>h) (by rfl) hHeld ?_ ?_
  rotate_left
  ·intro wz hSz;go_simp;try with_reducible rfl
  simp only[Act.put,List.setIfInBounds_toArray,List.set_cons_zero,List.set_cons_succ]
  refine held_take (i:=6) (v:=.bool false) rfl (by kernel_rfl) (by kernel_rfl) (by kernel_rfl) (fun _ _ _ h=>h) (by rfl) hHeld ?_ ?_
  ·intro wz hSz;(go_simp;first | done | rfl | simp[hdz])
  simp only[Act.put,List.setIfInBounds_toArray,List.set_cons_zero,List.set_cons_succ]
  refine held_take (i:=7) (v:=?_) rfl (by kernel_rfl) (by kernel_rfl) (by kernel_rfl) (fun _ _ _ h=>h) (by rfl) hHeld ?_ ?_
  rotate_left
  ·intro wz hSz;go_simp;try with_reducible rfl
  simp only[Act.put,List.setIfInBounds_toArray,List.set_cons_zero,List.set_cons_succ]
  refine held_take (i:=8) (v:=?_) rfl (by kernel_rfl) (by kernel_rfl) (by kernel_rfl) (fun _ _ _ h=>h) (by rfl) hHeld ?_ ?_
  rotate_left
  ·intro wz hSz;go_simp;try with_reducible rfl
  simp only[Act.put,List.setIfInBounds_toArray,List.set_cons_zero,List.set_cons_succ]
  refine held_take (i:=9) (v:=?_) rfl (by kernel_rfl) (by kernel_rfl) (by kernel_rfl) (fun _ _ _ h=>h) (by rfl) hHeld ?_ ?_
  rotate_left
  ·intro wz hSz;go_simp;try with_reducible rfl
  simp only[Act.put,List.setIfInBounds_toArray,List.set_cons_zero,List.set_cons_succ]
  refine held_take (i:=10) (v:=?_) rfl (by kernel_rfl) (by kernel_rfl) (by kernel_rfl) (fun _ _ _ h=>h) (by rfl) hHeld ?_ ?_
  rotate_left
  ·intro wz hSz;obtain⟨-,q0,q1,q2,q3,-⟩:=HX1.out.later hSz;go_simp;try with_reducible rfl
  simp only[Act.put,List.setIfInBounds_toArray,List.set_cons_zero,List.set_cons_succ]
  refine held_call (i:=11) (by kernel_rfl) rfl (by rfl) (by go_simp;try with_reducible rfl) (cA _) ?_
  rintro e wy ⟨rfl,rfl⟩
  refine⟨_,rfl,hHeld,?_⟩
  replace hHeld:=hHeld
  simp only[Act.put,List.setIfInBounds_toArray,List.set_cons_zero,List.set_cons_succ]
  refine held_take (i:=12) (v:=.bool false) rfl (by kernel_rfl) (by kernel_rfl) (by kernel_rfl) (fun _ _ _ h=>h) (by rfl) hHeld ?_ ?_
  ·intro wz hSz;(go_simp;first | done | rfl | simp[hk0])
  simp only[Act.put,List.setIfInBounds_toArray,List.set_cons_zero,List.set_cons_succ]
  refine held_take (i:=13) (v:=?_) rfl (by kernel_rfl) (by kernel_rfl) (by kernel_rfl) (fun _ _ _ h=>h) (by rfl) hHeld ?_ ?_
  rotate_left
  ·intro wz hSz;go_simp;try with_reducible rfl
  simp only[Act.put,List.setIfInBounds_toArray,List.set_cons_zero,List.set_cons_succ]
  refine held_take (i:=14) (v:=?_) rfl (by kernel_rfl) (by kernel_rfl) (by kernel_rfl) (fun _ _ _ h=>h) (by rfl) hHeld ?_ ?_
  rotate_left
  ·intro wz hSz;go_simp;try with_reducible rfl
  simp only[Act.put,List.setIfInBounds_toArray,List.set_cons_zero,List.set_cons_succ]
  refine held_take (i:=15) (v:=?_) rfl (by kernel_rfl) (by kernel_rfl) (by kernel_rfl) (fun _ _ _ h=>h) (by rfl) hHeld ?_ ?_
  rotate_left
  ·intro wz hSz;go_simp;try with_reducible rfl
  simp only[Act.put,List.setIfInBounds_toArray,List.set_cons_zero,List.set_cons_succ]
  refine held_take (i:=16) (v:=?_) rfl (by kernel_rfl) (by kernel_rfl) (by kernel_rfl) (fun _ _ _ h=>h) (by rfl) hHeld ?_ ?_
  rotate_left
  ·intro wz hSz;obtain⟨-,q0,q1,q2,q3,-⟩:=HX1.out.later hSz;go_simp;try with_reducible rfl
  simp only[Act.put,List.setIfInBounds_toArray,List.set_cons_zero,List.set_cons_succ]
  refine held_take (i:=17) (v:=?_) rfl (by kernel_rfl) (by kernel_rfl) (by kernel_rfl) (fun _ _ _ h=>h) (by rfl) hHeld ?_ ?_
  rotate_left
  ·intro wz hSz;go_simp;try with_reducible rfl
  simp only[Act.put,List.setIfInBounds_toArray,List.set_cons_zero,List.set_cons_succ]
  refine held_take (i:=18) (v:=?_) rfl (by kernel_rfl) (by kernel_rfl) (by kernel_rfl) (fun _ _ _ h=>h) (by rfl) hHeld ?_ ?_
  rotate_left
  ·intro wz hSz;go_simp;try with_reducible rfl
  simp only[Act.put,List.setIfInBounds_toArray,List.set_cons_zero,List.set_cons_succ]
  refine held_take (i:=19) (v:=?_) rfl (by kernel_rfl) (by kernel_rfl) (by kernel_rfl) (fun _ _ _ h=>h) (by rfl) hHeld ?_ ?_
  rotate_left
  ·intro wz hSz;obtain⟨-,q0,q1,q2,q3,-⟩:=HX1.out.later hSz;go_simp;try with_reducible rfl
  simp only[Act.put,List.setIfInBounds_toArray,List.set_cons_zero,List.set_cons_succ]
  refine held_call (i:=20) (by kernel_rfl) rfl (by rfl) (by go_simp;try with_reducible rfl) (cA _) ?_
  rintro e wy ⟨rfl,rfl⟩
  refine⟨_,rfl,hHeld,?_⟩
  replace hHeld:=hHeld
  simp only[Act.put,List.setIfInBounds_toArray,List.set_cons_zero,List.set_cons_succ]
  refine held_take (i:=21) (v:=.bool false) rfl (by kernel_rfl) (by kernel_rfl) (by kernel_rfl) (fun _ _ _ h=>h) (by rfl) hHeld ?_ ?_
  ·intro wz hSz;(go_simp;first | done | rfl | simp)
  simp only[Act.put,List.setIfInBounds_toArray,List.set_cons_zero,List.set_cons_succ]
  refine held_take (i:=22) (v:=?_) rfl (by kernel_rfl) (by kernel_rfl) (by kernel_rfl) (fun _ _ _ h=>h) (by rfl) hHeld ?_ ?_
  rotate_left
  ·intro wz hSz;go_simp;try with_reducible rfl
  simp only[Act.put,List.setIfInBounds_toArray,List.set_cons_zero,List.set_cons_succ]
  refine held_take (i:=23) (v:=?_) rfl (by kernel_rfl) (by kernel_rfl) (by kernel_rfl) (fun _ _ _ h=>h) (by rfl) hHeld ?_ ?_
  rotate_left
  ·intro wz hSz;go_simp;try with_reducible rfl
  simp only[Act.put,List.setIfInBounds_toArray,List.set_cons_zero,List.set_cons_succ]
  refine held_take (i:=24) (v:=?_) rfl (by kernel_rfl) (by kernel_rfl) (by kernel_rfl) (fun _ _ _ h=>h) (by rfl) hHeld ?_ ?_
  rotate_left
  ·intro wz hSz;obtain⟨-,q0,q1,q2,q3,-⟩:=HX1.out.later hSz;go_simp;try with_reducible rfl
  simp only[Act.put,List.setIfInBounds_toArray,List.set_cons_zero,List.set_cons_succ]
  refine held_call (i:=25) (by kernel_rfl) rfl (by rfl) (by go_simp;try with_reducible rfl) (cP _ (hEN _ hHeld)) ?_
  rintro e wy ⟨rfl,hy⟩
  refine⟨_,rfl,below_to hHeld hy,?_⟩
  replace hHeld:=below_to hHeld hy
  simp only[Act.put,List.setIfInBounds_toArray,List.set_cons_zero,List.set_cons_succ]
  refine held_take (i:=26) (v:=?_) rfl (by kernel_rfl) (by kernel_rfl) (by kernel_rfl) (fun _ _ _ h=>h) (by rfl) hHeld ?_ ?_
  rotate_left
  ·intro wz hSz;go_simp;try with_reducible rfl
  simp only[Act.put,List.setIfInBounds_toArray,List.set_cons_zero,List.set_cons_succ]
  refine held_take (i:=27) (v:=?_) rfl (by kernel_rfl) (by kernel_rfl) (by kernel_rfl) (fun _ _ _ h=>h) (by rfl) hHeld ?_ ?_
  rotate_left
  ·intro wz hSz;go_simp;try with_reducible rfl
  simp only[Act.put,List.setIfInBounds_toArray,List.set_cons_zero,List.set_cons_succ]
  refine wpAnyH_done (by kernel_rfl) ?_ _
  have hAw:=HA1.out.next hHeld
  have hCw:=HC1.out.later hHeld
  cases P with
  | false =>
   have HL:=HL0 rfl
   have HAw:=hid hAw
   have HCw:=hid hCw
   clear HR0 HL0 cA cP IH hAw hCw hHeld hy
   go_wp2_with fail
   exact bodyPost_ret (v:=.bool false) (by simp[results,results32,go_sem]) rfl (HEND.out (n+1) _ HAw.out HCw.out (by omega) (by omega) (by rw[HRR.out];exact HL.out))
  | true =>
   obtain⟨hk22,hHK⟩:∃ q:Bool,(op == 22)=q:=⟨_,rfl⟩
   have HR1:=HR0 rfl
   rw[hHK] at HR1
   have HR2:Hid (KLook wX g d n hk22 ks RR 0 wy):=hid (by obtain⟨q,a,b,c⟩:=HR1.out;exact⟨q,a.later hHeld,b.next hHeld,c⟩)
   have HHK:=hid hHK
   obtain⟨-,u0,u1,u2,u3,-⟩:=HX1.out.later hHeld
   clear HR0 HL0 cA cP HR1 hAw hCw hHeld hy hHK hwY HX1 HC1 HA1 hln x0 x1 x2 x3 y0 y1 y2 y3 c0 f0 k0 hEN
   go_wp2_with fail
   go_loopg [7] (ks.length) (fun a si wr=>∃ (j:Nat),j+a=ks.length∧si=.int .i64 (j:Int)∧Hid (KLook wX g d n hk22 ks RR j wr))
   case atStart=>exact⟨0,by omega,rfl,HR2⟩
   case round =>
    obtain⟨j,hja,rfl,HW⟩:=hrel
    clear HR2 u0 u1 u2 u3
    have HJ:=hid hja
    obtain⟨q,hCq,hAq,q1,q2,q3,q4⟩:=HW.out
    have hXq:=HX.out.away hAq (by omega)
    have hgq:=hCq.lt
    by_cases hjk:j<ks.length
    ·have hjz:(j:Int)<(ks.length:Int):=by omega
     obtain⟨g2,o,rfl,hS,hg,hrow⟩:=HK.out (by omega)
     have hx:ks[j]?=some ks[j]:=List.getElem?_eq_getElem hjk
     have hrow2:=RowIn.stays (.away hAq HSg.out) ks g2 o hS hg hrow
     obtain⟨v0,v1,v2,v3,c0,c1,c2,c3,he⟩:=hrow2.at hx
     obtain⟨ao2,cap2,hev,-⟩:=he.get
     obtain⟨rfl,rfl,rfl,rfl⟩:=agg4 hev
     clear hev
     have hgr:g2<wr.heap.size:=Nat.lt_of_lt_of_le hg hAq.size
     have cI:=IH ks[j] (List.getElem_mem hjk) _ S _ (d+1) q g he HSg.out hCq (by omega) q1 (by omega) (fun w' h=>HEX.out w' (hAq.trans h))
     rw[Int.natCast_add,Int.natCast_one] at cI
     have hdr:=List.drop_eq_getElem_cons hjk
     rw[hdr] at q4
     have q3':q+(nodes ks[j]:Int)+(nodesL (ks.drop (j+1)):Int)=n+1+(nodesL ks:Int):=by
      rw[hdr,nodesL] at q3;push_cast at q3;omega
     have HQ3:=hid q3'
     have HQ4:=hid q4
     have HAT:=hid hAq
     have HAq:=hid hAq
     have HCq:=hid hCq
     obtain⟨-,y0,y1,y2,y3,-⟩:=hXq
     clear HW hrow hrow2 he hCq hAq HK hja hx IH hdr q3 q4 q3'
     by_cases hbad:hk22=true∧ks[j].op≠4
     ·obtain⟨rfl,h4⟩:=hbad
      have h22:=HHK.out
      have h4z:(ks[j].op == 4)=false:=beq_eq_false_iff_ne.2 h4
      have HRF:Hid (RR=false):=hid (by rw[← HQ4.out];exact lookL_has h4)
      clear cI HQ4 HQ3 h4z
      go_wp2_with fail
      exact bodyPost_ret (v:=.bool false) (by simp[results,results32,go_sem]) rfl (HEND.out q _ HAq.out HCq.out (by omega) (by omega) (by rw[HRR.out,HRF.out]))
     ·have ho:hk22=false∨ks[j].op=4:=by
       cases hk22 with
       | false=>exact .inl rfl
       | true=>exact .inr (Classical.byContradiction fun h=>hbad ⟨rfl,h⟩)
      have hcase:(op == 22)=false∨((op == 22)=true∧ks[j].op=4):=by
       rcases ho with h | h
       ·left;rw[HHK.out,h]
       ·cases h2:(op == 22) with
        | false=>exact .inl rfl
        | true=>exact .inr ⟨rfl,h⟩
      have HO:=hid ho
      clear hbad ho
      have HRF:Hid (lookE q (d+1) ks[j]=false→RR=false):=hid (fun hr=>by rw[← HQ4.out];exact lookL_no hr)
      have HRT:Hid (lookE q (d+1) ks[j]=true→lookL hk22 (q+(nodes ks[j]:Int)) (d+1) (ks.drop (j+1))=RR∧q+(nodes ks[j]:Int)≤128):=hid (fun hr=>⟨by
       have hst:=lookL_yes (es:=ks.drop (j+1)) hr HO.out
       rw[HQ4.out] at hst
       exact hst.symm,by
       unfold lookE at hr
       simp only[Bool.and_eq_true,decide_eq_true_eq] at hr
       omega⟩)
      obtain⟨r,hr⟩:∃ r,lookE q (d+1) ks[j]=r:=⟨_,rfl⟩
      rw[hr] at HRF HRT
      have HRE:=hid hr
      clear HQ4 hr
      rcases hcase with h22 | ⟨h22,h4z⟩
      rotate_left
      generalize ks[j].op=kop at *
      subst h4z
      rotate_left
      all_goals
       go_wp2_with fail
       refine cI.mono ?_
       rintro en w2 ⟨m2,he,a2,C2,m0,m1,hb⟩
       rw[HRE.out] at he hb
       subst he
       have HA2:=hid (HAT.out.trans a2)
       have HC2:=hid C2
       have HM:=hid hb
       clear cI a2 C2 hb
       cases r with
       | false =>
        have HP:=hid (HEND.out m2 w2 HA2.out HC2.out (by omega) (by omega) (by rw[HRR.out,HRF.out rfl]))
        clear HRT HRF HM HA2 HC2
        go_wp2_with fail
        exact bodyPost_ret (v:=.bool false) (by simp[results,results32,go_sem]) rfl HP.out
       | true =>
        have hm:=HM.out rfl
        obtain⟨e1,e2⟩:=HRT.out rfl
        have HN:Hid (KLook wX g d n hk22 ks RR (j+1) w2):=hid ⟨m2,HC2.out,HA2.out,by omega,by omega,by rw[hm];exact HQ3.out,by rw[hm];exact e1⟩
        clear HRT HRF HM HA2 HC2 hm e1 e2
        go_wp2_with fail
        go_roundg (ks.length - (j+1))
        case measure=>have:=HJ.out;omega
        case rel=>exact⟨j+1,by have:=HJ.out;omega,by go_num,HN⟩
    ·have hjz:¬ (j:Int)<(ks.length:Int):=by omega
     have hj:j=ks.length:=by have:=HJ.out;omega
     obtain⟨-,y0,y1,y2,y3,-⟩:=hXq
     rw[hj,List.drop_length] at q3 q4
     rw[nodesL] at q3
     have HRT:Hid (RR=true):=hid (by rw[← q4];exact lookL_nil _ _ _ q1 (by omega))
     have HQ:Hid (q=n+1+(nodesL ks:Int)):=hid (by simpa using q3)
     have HP:=hid (HYES.out q wr hAq hCq (by omega) (by omega) (by rw[HRR.out,HRT.out]) HQ.out)
     clear HW HK hja IH hj hCq hAq q3 q4
     go_wp2_with fail
     exact bodyPost_ret (v:=.bool true) (by simp[results,results32,go_sem]) rfl HP.out
theorem look_all:∀ (F:Nat) (e:Ex),nodes e≤F→∀ (v:Value) (S:Nat→Prop) (w:World) (d:Nat) (n:Int) (g:Nat),ExIn w S e v→¬ S g→Cnt w g n→0≤n→n≤128→d≤25→(∀ w',Away g w w'→EnvP w') →
  Calls prog 32 #[v,.int .i64 (d:Int),.pointer (some ⟨g,0,none⟩)] w (LookEnd w g d n e)
 | 0,e,hF,_,_,_,_,_,_,_,_,_,_,_,_,_=>absurd hF (by have:=nodes_pos e;omega)
 | F+1,.mk op m s ks,hF,v,S,w,d,n,g,hv,hSg,hC,hn0,hn1,_,hEa=>by
  by_cases hn:128<n+1
  ·exact look_bad1 op m s ks v S w d n g hv hSg hC hn0 hn1 hEa hn
  by_cases hd:24<d
  ·exact look_bad2 op m s ks v S w d n g hv hSg hC hn0 hn1 hEa hn hd
  cases har:arity op with
  | none=>exact look_bad3 op m s ks v S w d n g hv hSg hC hn0 hn1 hEa hn hd har
  | some k =>
   by_cases hkl:ks.length=k
   ·subst hkl
    refine look_main op m s ks v S w d n g hv hSg hC hn0 hn1 hEa hn hd har (fun e he=>look_all F e ?_)
    have:=nodes_kid he
    rw[nodes] at hF;omega
   ·exact look_bad4 op m s ks v S w d n g hv hSg hC hn0 hn1 hEa k hn hd har hkl
theorem rcheck_any (e:Ex) (v:Value) (S:Nat→Prop) (w:World) (hE:EnvP w) (hv:ExIn w S e v) :
  Calls prog 7 #[v] w fun en w'=>en=.returned (.bool (chkB e))∧Below w.heap.size w w':=by
 obtain⟨ao,cap,rfl,h2,h3,hr,hk⟩:=hv.get
 have hX:=four_new w (.int .i64 e.op) (.int .i64 e.num) (.string ⟨e.str.toArray⟩) (.slice ao e.kids.length cap) 24
 have hbX:=below_alloc w (.cells #[.int .i64 e.op,.int .i64 e.num,.string ⟨e.str.toArray⟩,.slice ao e.kids.length cap] 24)
 have hsX:=alloc_size w (.cells #[.int .i64 e.op,.int .i64 e.num,.string ⟨e.str.toArray⟩,.slice ao e.kids.length cap] 24)
 have hvX:=(hv.later hbX).wide (R:=fun b=>b<(w.alloc (.cells #[.int .i64 e.op,.int .i64 e.num,.string ⟨e.str.toArray⟩,.slice ao e.kids.length cap] 24)).heap.size) (fun b _ h=>h)
 have hEX:=hE.later hbX
 obtain⟨wX,hwX⟩:∃ wX,w.alloc (.cells #[.int .i64 e.op,.int .i64 e.num,.string ⟨e.str.toArray⟩,.slice ao e.kids.length cap] 24)=wX:=⟨_,rfl⟩
 rw[hwX] at hX hbX hsX hvX hEX
 have hb1:=below_alloc wX (.cells #[.int .i64 0] 3)
 have hv2:=hvX.later hb1
 have hX1:=hX.later hb1
 have hC:Cnt (wX.alloc (.cells #[.int .i64 0] 3)) wX.heap.size 0:=alloc_at wX _
 have c:=look_all (nodes e) e (Nat.le_refl _) _ _ _ 1 0 wX.heap.size hv2 (Nat.lt_irrefl _) hC (by decide) (by decide) (by decide) (fun w' h=>hEX.later (hb1.trans (h.below (Nat.le_refl _) hb1.size)))
 rw[show ((1:Nat):Int)=1 from rfl,hsX] at c
 have HE:Hid (∀ w',Away (w.heap.size+1) (wX.alloc (.cells #[.int .i64 0] 3)) w'→Below w.heap.size w w'):=hid (fun w' h=>below_to hbX (hb1.trans ((hsX ▸ h:Away wX.heap.size _ w').below (Nat.le_refl _) hb1.size)))
 have HC:=hid (look_chk e)
 obtain⟨-,x0,x1,x2,x3,-⟩:=hX1
 clear hv hvX hv2 hb1 hX hC hEX hk hE hbX
 go_enter func7,ntmps7
 go_wp2_with fail
 refine c.mono ?_
 rintro en w1 ⟨m,he,a1,C1,m0,m1,hb⟩
 rw[HC.out] at he
 subst he
 have HW:=hid (HE.out w1 a1)
 clear hb c HE a1 C1
 go_wp2_with fail
 exact bodyPost_ret (v:=.bool (chkB e)) (by simp[results,results7,go_sem]) rfl ⟨rfl,HW.out⟩
end
end Go.Proofs.YtbbblmedoagncaaGreatDoor
