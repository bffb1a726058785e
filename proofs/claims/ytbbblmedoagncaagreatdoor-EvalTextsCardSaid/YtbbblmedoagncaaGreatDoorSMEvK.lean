/- EvK -/
import Derived.Test.YtbbblmedoagncaaGreatDoorSMEvO
namespace Go.Proofs.YtbbblmedoagncaaGreatDoor
section
open _root_.Go.Proofs.Tryz
set_option maxHeartbeats 1000000
open Go.RowKit
def Kid (A B:Option Addr) (l c m d:Nat) (w:World) (g o:Nat) (a:Va):Prop:=∃ (op n:Int) (s:ByteArray) (kv:Value),w.cell? ⟨g,o,none⟩=some (.int .i64 op)∧w.cell? ⟨g,o+1,none⟩=some (.int .i64 n)∧w.cell? ⟨g,o+2,none⟩=some (.string s)∧w.cell? ⟨g,o+3,none⟩=some kv ∧
 ∀ w',Below w.heap.size w w'→Calls prog 49 #[KE A l c B m d,.agg #[.int .i64 op,.int .i64 n,.string s,kv]] w' (Comes w' a)
theorem Kid.later {A B:Option Addr} {l c m d:Nat} {w w1:World} {g o:Nat} {a:Va} (h:Kid A B l c m d w g o a) (hb:Below w.heap.size w w1):Kid A B l c m d w1 g o a:=by
 obtain⟨op,n,s,kv,x0,x1,x2,x3,k⟩:=h
 have hg:=World.block_lt_of_cell? w _ x0
 exact⟨op,n,s,kv,(hb.cell (p:=⟨g,o,none⟩) hg).trans x0,(hb.cell (p:=⟨g,o+1,none⟩) hg).trans x1,(hb.cell (p:=⟨g,o+2,none⟩) hg).trans x2,(hb.cell (p:=⟨g,o+3,none⟩) hg).trans x3,fun w' hw=>k w' (below_to hb hw)⟩
theorem evof1 (A B:Option Addr) (l c m d:Nat) (n:Int) (s:ByteArray) (g o cap:Nat) (op:Int) (a:Va) (w:World) (ho:op=5∨op=6∨op=19∨op=23) (ha:a.ok) (hx:Kid A B l c m d w g o a) (hT:Tabs w)
  (hU:∀ (t:List UInt8) (w:World),t.length≤400→validL t=true→Tabs w→Calls prog 124 #[.string ⟨t.toArray⟩] w (Comes w (texV (foldL t)))) :
  Calls prog 49 #[KE A l c B m d,.agg #[.int .i64 op,.int .i64 n,.string s,.slice (some ⟨g,o,none⟩) 1 cap]] w (Comes w (opV op [a])):=by
 rcases ho with rfl | rfl | rfl | rfl
 ·rw[show opV 5 [a]=wantV 1 a (numV (0 - a.n)) by unfold opV;simp]
  refine of_5 A B l c m d n s _ 1 cap w _ (fun w' p hw hp=>?_)
  have hT2:=hT.later hw
  obtain⟨opx,nx,sx,kvx,x0,x1,x2,x3,kx⟩:=hx.later hw
  exact one_num A B l c m d g o 1 cap opx nx sx kvx a _ 106 (fun _ _=>by kernel_rfl) #[] w' ha hT2 (by omega) x0 x1 x2 x3 kx (fun hk w2 hw2=>do_neg a.n w2 (hT2.later hw2) ha.2)
 ·rw[show opV 6 [a]=wantV 2 a (truV (decide (a.n≠1))) by unfold opV;simp]
  refine of_6 A B l c m d n s _ 1 cap w _ (fun w' p hw hp=>?_)
  have hT2:=hT.later hw
  obtain⟨opx,nx,sx,kvx,x0,x1,x2,x3,kx⟩:=hx.later hw
  exact one_bool A B l c m d g o 1 cap opx nx sx kvx a _ 111 (fun _ _=>by kernel_rfl) #[] w' ha hT2 (by omega) x0 x1 x2 x3 kx (fun hk w2 hw2=>do_not a.n w2)
 ·rw[show opV 19 [a]=wantV 3 a ⟨1,(countL a.s:Int),[]⟩ by unfold opV;simp]
  refine of_19 A B l c m d n s _ 1 cap w _ (fun w' p hw hp=>?_)
  have hT2:=hT.later hw
  obtain⟨opx,nx,sx,kvx,x0,x1,x2,x3,kx⟩:=hx.later hw
  exact one_text A B l c m d g o 1 cap opx nx sx kvx a _ 116 (fun _ _=>by kernel_rfl) #[] w' ha hT2 (by omega) x0 x1 x2 x3 kx (fun hk w2 hw2=>do_len a.s w2 (by have:=ha.len hk;omega))
 ·rw[show opV 23 [a]=wantV 3 a (texV (foldL a.s)) by unfold opV;simp]
  refine of_23 A B l c m d n s _ 1 cap w _ (fun w' p hw hp=>?_)
  have hT2:=hT.later hw
  obtain⟨opx,nx,sx,kvx,x0,x1,x2,x3,kx⟩:=hx.later hw
  exact one_text A B l c m d g o 1 cap opx nx sx kvx a _ 124 (fun _ _=>by kernel_rfl) #[] w' ha hT2 (by omega) x0 x1 x2 x3 kx (fun hk w2 hw2=>hU a.s w2 (ha.len hk) (ha.text hk).1 (hT2.later hw2))
theorem evof2 (A B:Option Addr) (l c m d:Nat) (n:Int) (s:ByteArray) (g o cap:Nat) (op:Int) (a b:Va) (w:World) (ho:(7≤op∧op≤17)∨op=20∨op=21) (ha:a.ok) (hb:b.ok) (hx:Kid A B l c m d w g o a) (hy:Kid A B l c m d w g (o+4) b) (hT:Tabs w) (hcap:2≤cap) :
  Calls prog 49 #[KE A l c B m d,.agg #[.int .i64 op,.int .i64 n,.string s,.slice (some ⟨g,o,none⟩) 2 cap]] w (Comes w (opV op [a,b])):=by
 rcases (show op=7∨op=8∨op=9∨op=10∨op=11∨op=16∨op=17∨op=12∨op=13∨op=14∨op=15∨op=20∨op=21 by omega) with rfl | rfl | rfl | rfl | rfl | rfl | rfl | rfl | rfl | rfl | rfl | rfl | rfl
 ·rw[show opV 7 [a,b]=wantV 1 a (wantV 1 b (numOp 7 a.n b.n)) by unfold opV;simp]
  refine of_7 A B l c m d n s _ 2 cap w _ (fun w' p hw hp=>?_)
  have hT2:=hT.later hw
  obtain⟨opx,nx,sx,kvx,x0,x1,x2,x3,kx⟩:=hx.later hw
  obtain⟨opy,ny,sy,kvy,y0,y1,y2,y3,ky⟩:=hy.later hw
  exact two_nn A B l c m d g o 2 cap opx nx opy ny sx sy kvx kvy a b _ 109 (fun _ _=>by kernel_rfl) #[.pointer (some ⟨p,0,none⟩)] w' ha hb hT2 (by omega) hcap x0 x1 x2 x3 y0 y1 y2 y3 kx ky (fun _ _ w2 hw2=>do_two 7 a.n b.n p w2 (hT2.later hw2) (by omega) ha.2 hb.2 ((hw2.cell (p:=⟨p,0,none⟩) (World.block_lt_of_cell? w' _ hp)).trans hp))
 ·rw[show opV 8 [a,b]=wantV 1 a (wantV 1 b (numOp 8 a.n b.n)) by unfold opV;simp]
  refine of_8 A B l c m d n s _ 2 cap w _ (fun w' p hw hp=>?_)
  have hT2:=hT.later hw
  obtain⟨opx,nx,sx,kvx,x0,x1,x2,x3,kx⟩:=hx.later hw
  obtain⟨opy,ny,sy,kvy,y0,y1,y2,y3,ky⟩:=hy.later hw
  exact two_nn A B l c m d g o 2 cap opx nx opy ny sx sy kvx kvy a b _ 109 (fun _ _=>by kernel_rfl) #[.pointer (some ⟨p,0,none⟩)] w' ha hb hT2 (by omega) hcap x0 x1 x2 x3 y0 y1 y2 y3 kx ky (fun _ _ w2 hw2=>do_two 8 a.n b.n p w2 (hT2.later hw2) (by omega) ha.2 hb.2 ((hw2.cell (p:=⟨p,0,none⟩) (World.block_lt_of_cell? w' _ hp)).trans hp))
 ·rw[show opV 9 [a,b]=wantV 1 a (wantV 1 b (numOp 9 a.n b.n)) by unfold opV;simp]
  refine of_9 A B l c m d n s _ 2 cap w _ (fun w' p hw hp=>?_)
  have hT2:=hT.later hw
  obtain⟨opx,nx,sx,kvx,x0,x1,x2,x3,kx⟩:=hx.later hw
  obtain⟨opy,ny,sy,kvy,y0,y1,y2,y3,ky⟩:=hy.later hw
  exact two_nn A B l c m d g o 2 cap opx nx opy ny sx sy kvx kvy a b _ 109 (fun _ _=>by kernel_rfl) #[.pointer (some ⟨p,0,none⟩)] w' ha hb hT2 (by omega) hcap x0 x1 x2 x3 y0 y1 y2 y3 kx ky (fun _ _ w2 hw2=>do_two 9 a.n b.n p w2 (hT2.later hw2) (by omega) ha.2 hb.2 ((hw2.cell (p:=⟨p,0,none⟩) (World.block_lt_of_cell? w' _ hp)).trans hp))
 ·rw[show opV 10 [a,b]=wantV 1 a (wantV 1 b (numOp 10 a.n b.n)) by unfold opV;simp]
  refine of_10 A B l c m d n s _ 2 cap w _ (fun w' p hw hp=>?_)
  have hT2:=hT.later hw
  obtain⟨opx,nx,sx,kvx,x0,x1,x2,x3,kx⟩:=hx.later hw
  obtain⟨opy,ny,sy,kvy,y0,y1,y2,y3,ky⟩:=hy.later hw
  exact two_nn A B l c m d g o 2 cap opx nx opy ny sx sy kvx kvy a b _ 109 (fun _ _=>by kernel_rfl) #[.pointer (some ⟨p,0,none⟩)] w' ha hb hT2 (by omega) hcap x0 x1 x2 x3 y0 y1 y2 y3 kx ky (fun _ _ w2 hw2=>do_two 10 a.n b.n p w2 (hT2.later hw2) (by omega) ha.2 hb.2 ((hw2.cell (p:=⟨p,0,none⟩) (World.block_lt_of_cell? w' _ hp)).trans hp))
 ·rw[show opV 11 [a,b]=wantV 1 a (wantV 1 b (numOp 11 a.n b.n)) by unfold opV;simp]
  refine of_11 A B l c m d n s _ 2 cap w _ (fun w' p hw hp=>?_)
  have hT2:=hT.later hw
  obtain⟨opx,nx,sx,kvx,x0,x1,x2,x3,kx⟩:=hx.later hw
  obtain⟨opy,ny,sy,kvy,y0,y1,y2,y3,ky⟩:=hy.later hw
  exact two_nn A B l c m d g o 2 cap opx nx opy ny sx sy kvx kvy a b _ 109 (fun _ _=>by kernel_rfl) #[.pointer (some ⟨p,0,none⟩)] w' ha hb hT2 (by omega) hcap x0 x1 x2 x3 y0 y1 y2 y3 kx ky (fun _ _ w2 hw2=>do_two 11 a.n b.n p w2 (hT2.later hw2) (by omega) ha.2 hb.2 ((hw2.cell (p:=⟨p,0,none⟩) (World.block_lt_of_cell? w' _ hp)).trans hp))
 ·rw[show opV 16 [a,b]=wantV 2 a (if (a.n == 1)=false then a else wantV 2 b b) by unfold opV;by_cases h:a.n=1<;>simp[h]]
  refine of_16 A B l c m d n s _ 2 cap w _ (fun w' p hw hp=>?_)
  have hT2:=hT.later hw
  obtain⟨opx,nx,sx,kvx,x0,x1,x2,x3,kx⟩:=hx.later hw
  obtain⟨opy,ny,sy,kvy,y0,y1,y2,y3,ky⟩:=hy.later hw
  exact either_any A B l c m d g o 2 cap opx nx sx kvx opy ny sy kvy false a b w' ha hb hT2 (by omega) hcap x0 x1 x2 x3 y0 y1 y2 y3 kx ky
 ·rw[show opV 17 [a,b]=wantV 2 a (if (a.n == 1)=true then a else wantV 2 b b) by unfold opV;by_cases h:a.n=1<;>simp[h]]
  refine of_17 A B l c m d n s _ 2 cap w _ (fun w' p hw hp=>?_)
  have hT2:=hT.later hw
  obtain⟨opx,nx,sx,kvx,x0,x1,x2,x3,kx⟩:=hx.later hw
  obtain⟨opy,ny,sy,kvy,y0,y1,y2,y3,ky⟩:=hy.later hw
  exact either_any A B l c m d g o 2 cap opx nx sx kvx opy ny sy kvy true a b w' ha hb hT2 (by omega) hcap x0 x1 x2 x3 y0 y1 y2 y3 kx ky
 ·rw[show opV 12 [a,b]=cmpV 12 a b by unfold opV;simp]
  refine of_12 A B l c m d n s _ 2 cap w _ (fun w' p hw hp=>?_)
  have hT2:=hT.later hw
  obtain⟨opx,nx,sx,kvx,x0,x1,x2,x3,kx⟩:=hx.later hw
  obtain⟨opy,ny,sy,kvy,y0,y1,y2,y3,ky⟩:=hy.later hw
  exact compared_any A B l c m d g o 2 cap opx nx sx kvx opy ny sy kvy 12 a b w' (by omega) ha hb hT2 (by omega) hcap x0 x1 x2 x3 y0 y1 y2 y3 kx ky
 ·rw[show opV 13 [a,b]=cmpV 13 a b by unfold opV;simp]
  refine of_13 A B l c m d n s _ 2 cap w _ (fun w' p hw hp=>?_)
  have hT2:=hT.later hw
  obtain⟨opx,nx,sx,kvx,x0,x1,x2,x3,kx⟩:=hx.later hw
  obtain⟨opy,ny,sy,kvy,y0,y1,y2,y3,ky⟩:=hy.later hw
  exact compared_any A B l c m d g o 2 cap opx nx sx kvx opy ny sy kvy 13 a b w' (by omega) ha hb hT2 (by omega) hcap x0 x1 x2 x3 y0 y1 y2 y3 kx ky
 ·rw[show opV 14 [a,b]=cmpV 14 a b by unfold opV;simp]
  refine of_14 A B l c m d n s _ 2 cap w _ (fun w' p hw hp=>?_)
  have hT2:=hT.later hw
  obtain⟨opx,nx,sx,kvx,x0,x1,x2,x3,kx⟩:=hx.later hw
  obtain⟨opy,ny,sy,kvy,y0,y1,y2,y3,ky⟩:=hy.later hw
  exact compared_any A B l c m d g o 2 cap opx nx sx kvx opy ny sy kvy 14 a b w' (by omega) ha hb hT2 (by omega) hcap x0 x1 x2 x3 y0 y1 y2 y3 kx ky
 ·rw[show opV 15 [a,b]=cmpV 15 a b by unfold opV;simp]
  refine of_15 A B l c m d n s _ 2 cap w _ (fun w' p hw hp=>?_)
  have hT2:=hT.later hw
  obtain⟨opx,nx,sx,kvx,x0,x1,x2,x3,kx⟩:=hx.later hw
  obtain⟨opy,ny,sy,kvy,y0,y1,y2,y3,ky⟩:=hy.later hw
  exact compared_any A B l c m d g o 2 cap opx nx sx kvx opy ny sy kvy 15 a b w' (by omega) ha hb hT2 (by omega) hcap x0 x1 x2 x3 y0 y1 y2 y3 kx ky
 ·rw[show opV 20 [a,b]=wantV 3 a (wantV 3 b (texV (a.s++b.s))) by unfold opV;simp]
  refine of_20 A B l c m d n s _ 2 cap w _ (fun w' p hw hp=>?_)
  have hT2:=hT.later hw
  obtain⟨opx,nx,sx,kvx,x0,x1,x2,x3,kx⟩:=hx.later hw
  obtain⟨opy,ny,sy,kvy,y0,y1,y2,y3,ky⟩:=hy.later hw
  exact two_tt A B l c m d g o 2 cap opx nx opy ny sx sy kvx kvy a b _ 119 (fun _ _=>by kernel_rfl) #[] w' ha hb hT2 (by omega) hcap x0 x1 x2 x3 y0 y1 y2 y3 kx ky (fun h1 h2 w2 hw2=>do_cat a.s b.s w2 (ha.len h1) (hb.len h2) (hT2.later hw2))
 ·rw[show opV 21 [a,b]=wantV 3 a (wantV 1 b ⟨3,0,cutL a.s b.n.toNat⟩) by unfold opV;simp]
  refine of_21 A B l c m d n s _ 2 cap w _ (fun w' p hw hp=>?_)
  have hT2:=hT.later hw
  obtain⟨opx,nx,sx,kvx,x0,x1,x2,x3,kx⟩:=hx.later hw
  obtain⟨opy,ny,sy,kvy,y0,y1,y2,y3,ky⟩:=hy.later hw
  exact two_tn A B l c m d g o 2 cap opx nx opy ny sx sy kvx kvy a b _ 122 (fun _ _=>by kernel_rfl) #[] w' ha hb hT2 (by omega) hcap x0 x1 x2 x3 y0 y1 y2 y3 kx ky (fun h1 h2 w2 hw2=>do_cut a.s b.n w2 (ha.len h1) hb.2)
theorem evof3 (A B:Option Addr) (l c m d:Nat) (n:Int) (s:ByteArray) (g o cap:Nat) (a b t:Va) (w:World) (ha:a.ok) (hx:Kid A B l c m d w g o a) (hy:Kid A B l c m d w g (o+4) b) (hz:Kid A B l c m d w g (o+8) t) (hT:Tabs w) :
  Calls prog 49 #[KE A l c B m d,.agg #[.int .i64 18,.int .i64 n,.string s,.slice (some ⟨g,o,none⟩) 3 cap]] w (Comes w (opV 18 [a,b,t])):=by
 rw[show opV 18 [a,b,t]=wantV 2 a (if a.n=1 then b else t) by unfold opV;simp]
 refine of_18 A B l c m d n s _ 3 cap w _ (fun w' p hw hp=>?_)
 have hT2:=hT.later hw
 obtain⟨opx,nx,sx,kvx,x0,x1,x2,x3,kx⟩:=hx.later hw
 obtain⟨opy,ny,sy,kvy,y0,y1,y2,y3,ky⟩:=hy.later hw
 obtain⟨opz,nz,sz,kvz,z0,z1,z2,z3,kz⟩:=hz.later hw
 exact chosen_any A B l c m d g o 3 cap opx nx sx kvx opy ny sy kvy opz nz sz kvz a b t w' ha hT2 (by omega) x0 x1 x2 x3 y0 y1 y2 y3 z0 z1 z2 z3 kx ky kz
structure Knows (w:World) (N:List ByteArray) (V:List Va) (A B:Option Addr):Prop where
 names:Ts w A N
 vals:Vs w B V
 tabs:Tabs w
 ln:N.length≤4611686018427387904
 lv:V.length≤4611686018427387904
 len:∀ v ∈ V,v.s.length<9223372036854775807
 num:∀ v ∈ V,-9223372036854775808≤v.n∧v.n≤9223372036854775807
theorem Knows.later {w w':World} {N:List ByteArray} {V:List Va} {A B:Option Addr} (h:Knows w N V A B) (hb:Below w.heap.size w w'):Knows w' N V A B:=⟨h.names.below hb,h.vals.below hb,h.tabs.later hb,h.ln,h.lv,h.len,h.num⟩
theorem evalE_op {N:List ByteArray} {V:List Va} {op n:Int} {s:List UInt8} {ks:List Ex} (h:5≤op) (h2:op≠22):evalE N V (.mk op n s ks)=opV op (evalL N V ks):=by
 rw[evalE,if_neg (by omega),if_neg (by omega),if_neg (by omega),if_neg (by omega),if_neg h2]
theorem fitL_mem {ks:List Ex} (h:fitL ks):∀ k ∈ ks,fitE k:=by
 induction ks with
 | nil=>intro k hk;cases hk
 | cons e es ih =>
  rw[fitL] at h
  intro k hk
  rcases List.mem_cons.1 hk with rfl | hk
  ·exact h.1
  ·exact ih h.2 k hk
theorem allBL_mem {ks:List Ex} (h:allBL ks=true):∀ k ∈ ks,allB k=true:=by
 induction ks with
 | nil=>intro k hk;cases hk
 | cons e es ih =>
  rw[allBL] at h
  simp only[Bool.and_eq_true] at h
  intro k hk
  rcases List.mem_cons.1 hk with rfl | hk
  ·exact h.1
  ·exact ih h.2 k hk
theorem deepL_mem {ks:List Ex}:∀ k ∈ ks,deepE k≤deepL ks:=by
 induction ks with
 | nil=>intro k hk;cases hk
 | cons e es ih =>
  rw[deepL]
  intro k hk
  rcases List.mem_cons.1 hk with rfl | hk
  ·exact Nat.le_max_left _ _
  ·exact Nat.le_trans (ih k hk) (Nat.le_max_right _ _)
theorem two_list {α:Type} {l:List α} (h:l.length=2):∃ a b,l=[a,b]:=by
 match l,h with
 | [a,b],_=>exact⟨a,b,rfl⟩
theorem three_list {α:Type} {l:List α} (h:l.length=3):∃ a b c,l=[a,b,c]:=by
 match l,h with
 | [a,b,c],_=>exact⟨a,b,c,rfl⟩
theorem arity_five {op:Int} {k:Nat} (h:arity op=some k):(1≤op∧op≤4∧k=0)∨((op=5∨op=6∨op=19∨op=23)∧k=1)∨(op=22∧k=1)∨(((7≤op∧op≤17)∨op=20∨op=21)∧k=2)∨(op=18∧k=3):=by
 unfold arity at h
 split at h
 ·injection h with h;omega
 split at h
 ·injection h with h;omega
 split at h
 ·injection h with h;omega
 split at h
 ·injection h with h;omega
 ·cases h
theorem evof_any (N:List ByteArray) (V:List Va) (A B:Option Addr) (cA cB:Nat)
  (hU:∀ (t:List UInt8) (w:World),t.length≤400→validL t=true→Tabs w→Calls prog 124 #[.string ⟨t.toArray⟩] w (Comes w (texV (foldL t)))) :
  ∀ (f:Nat) (e:Ex),deepE e≤f→allB e=true→fitE e→∀ (w:World) (S:Nat→Prop) (v:Value),ExIn w S e v→Knows w N V A B →
   Calls prog 49 #[KE A N.length cA B V.length cB,v] w (Comes w (evalE N V e)):=by
 intro f
 induction f with
 | zero=>intro e hd;obtain⟨op,n,s,ks⟩:=e;rw[deepE] at hd;omega
 | succ f ih =>
  intro e hd ha hf w S v hv hK
  obtain⟨op,n,s,ks⟩:=e
  rw[deepE] at hd
  rw[allB] at ha
  rw[fitE] at hf
  simp only[Bool.and_eq_true] at ha
  obtain⟨hp,hkb⟩:=ha
  have hok:=ok_evalL N V hK.num ks hkb hf.2
  obtain⟨ao,cap,rfl,hcap,hll,hr,hk⟩:=hv.get
  unfold partB at hp
  unfold Ex.op Ex.num Ex.str Ex.kids at *
  dsimp only at *
  simp only[Bool.and_eq_true,decide_eq_true_eq] at hp
  obtain⟨⟨hA,hpl⟩,hh⟩:=hp
  have hA:=arity_five hA
  have hkid:∀ (g o i:Nat) (k:Ex),RowIn w S g o ks→ks[i]?=some k→Kid A B N.length cA V.length cB w g (o+i * 4) (evalE N V k)∧w.cell? ⟨g,o+i * 4+2,none⟩=some (.string ⟨k.str.toArray⟩):=by
   intro g o i k hR hi
   obtain⟨v0,v1,v2,v3,c0,c1,c2,c3,he⟩:=hR.at hi
   have hm:=List.mem_of_getElem? hi
   obtain⟨ao1,cap1,hv1,-⟩:=he.get
   simp only[Value.agg.injEq,Array.mk.injEq,List.cons.injEq,and_true] at hv1
   obtain⟨rfl,rfl,rfl,rfl⟩:=hv1
   exact⟨⟨_,_,_,_,c0,c1,c2,c3,fun w' hw=>ih k (by have:=deepL_mem k hm;omega) (allBL_mem hkb k hm) (fitL_mem hf.2 k hm) w' S _ (he.later hw) (hK.later hw)⟩,c2⟩
  rcases hA with ⟨h1,h4,h0⟩ | ⟨ho,h1⟩ | ⟨rfl,h1⟩ | ⟨ho,h2⟩ | ⟨rfl,h3⟩
  ·rcases (show op=1∨op=2∨op=3∨op=4 by omega) with rfl | rfl | rfl | rfl
   ·rw[show evalE N V (.mk 1 n s ks)=⟨1,n,[]⟩ by rw[evalE,if_pos rfl]]
    exact of_num A B _ _ _ _ n _ _ _ _ w
   ·rw[show evalE N V (.mk 2 n s ks)=⟨3,0,s⟩ by rw[evalE,if_neg (by decide),if_pos rfl]]
    exact of_text A B _ _ _ _ n s _ _ _ w
   ·rw[show evalE N V (.mk 3 n s ks)=⟨2,n,[]⟩ by rw[evalE,if_neg (by decide),if_neg (by decide),if_pos rfl]]
    exact of_bool A B _ _ _ _ n _ _ _ _ w
   ·rw[show evalE N V (.mk 4 n s ks)=nameV N V ⟨s.toArray⟩ by rw[evalE,if_neg (by decide),if_neg (by decide),if_neg (by decide),if_pos rfl]]
    exact of_name A B _ _ _ _ n _ _ _ _ w _ (fun w' hw=>evname_any N V A B cA cB _ w' (hK.later hw).names (hK.later hw).vals hK.ln hK.lv hK.len (hK.later hw).tabs)
  ·obtain⟨a,rfl⟩:=List.length_eq_one_iff.1 h1
   obtain⟨g,o,rfl,-,-,hR⟩:=hk (by simp)
   have x:=(hkid g o 0 a hR rfl).1
   rw[evalE_op (by omega) (by omega)]
   exact evof1 A B _ _ _ _ n _ g o cap op _ w ho (hok _ (by simp[evalL])) x hK.tabs hU
  ·obtain⟨a,rfl⟩:=List.length_eq_one_iff.1 h1
   obtain⟨g,o,rfl,-,-,hR⟩:=hk (by simp)
   have x:=(hkid g o 0 a hR rfl).2
   rw[show evalE N V (.mk 22 n s [a])=truV (hasV (nameV N V ⟨a.str.toArray⟩)) by rw[evalE,if_neg (by decide),if_neg (by decide),if_neg (by decide),if_neg (by decide),if_pos rfl];rfl]
   exact of_22 A B _ _ _ _ n _ g o 1 cap w _ _ (ok_name N V _ hK.num) (by omega) x (fun w' hw=>evname_any N V A B cA cB _ w' (hK.later hw).names (hK.later hw).vals hK.ln hK.lv hK.len (hK.later hw).tabs)
  ·obtain⟨a,b,rfl⟩:=two_list h2
   obtain⟨g,o,rfl,-,-,hR⟩:=hk (by simp)
   have x:=(hkid g o 0 a hR rfl).1
   have y:=(hkid g o 1 b hR rfl).1
   rw[evalE_op (by omega) (by omega)]
   exact evof2 A B _ _ _ _ n _ g o cap op _ _ w ho (hok _ (by simp[evalL])) (hok _ (by simp[evalL])) x y hK.tabs hcap
  ·obtain⟨a,b,t,rfl⟩:=three_list h3
   obtain⟨g,o,rfl,-,-,hR⟩:=hk (by simp)
   have x:=(hkid g o 0 a hR rfl).1
   have y:=(hkid g o 1 b hR rfl).1
   have z:=(hkid g o 2 t hR rfl).1
   rw[evalE_op (by omega) (by omega)]
   exact evof3 A B _ _ _ _ n _ g o cap _ _ _ w (hok _ (by simp[evalL])) x y z hK.tabs
end
end Go.Proofs.YtbbblmedoagncaaGreatDoor
