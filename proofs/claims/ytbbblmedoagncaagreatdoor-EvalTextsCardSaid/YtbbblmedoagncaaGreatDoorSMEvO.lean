/- EvO -/
import Derived.Test.YtbbblmedoagncaaGreatDoorSED
import Derived.Test.YtbbblmedoagncaaGreatDoorSEY
namespace Go.Proofs.YtbbblmedoagncaaGreatDoor
section
open Lib (hid)
open _root_.Go.Proofs.Tryz
set_option maxHeartbeats 4000000
set_option maxRecDepth 100000
open Go.RowKit
theorem entO (w:World) (A B:Option Addr) (l c m d:Nat) (op n:Int) (s:ByteArray) (kv:Value):∃ w1 w2,w.alloc (.cells #[.slice A l c,.slice B m d] 87)=w1∧w1.alloc (.cells #[.int .i64 op,.int .i64 n,.string s,kv] 24)=w2 ∧
  Below w.heap.size w w2∧w2.cell? ⟨w.heap.size,0,none⟩=some (.slice A l c)∧w2.cell? ⟨w.heap.size,1,none⟩=some (.slice B m d)∧Four w2 w1.heap.size (.int .i64 op) (.int .i64 n) (.string s) kv∧w.heap.size<w1.heap.size∧w1.heap.size<w2.heap.size:=by
 have hb1:=below_alloc w (.cells #[.slice A l c,.slice B m d] 87)
 have hs1:=alloc_size w (.cells #[.slice A l c,.slice B m d] 87)
 have k0:(w.alloc (.cells #[.slice A l c,.slice B m d] 87)).cell? ⟨w.heap.size,0,none⟩=some (.slice A l c):=by rw[cells_of_alloc];rfl
 have k1:(w.alloc (.cells #[.slice A l c,.slice B m d] 87)).cell? ⟨w.heap.size,1,none⟩=some (.slice B m d):=by rw[cells_of_alloc];rfl
 generalize w.alloc (.cells #[.slice A l c,.slice B m d] 87)=w1 at *
 have hb2:=below_alloc w1 (.cells #[.int .i64 op,.int .i64 n,.string s,kv] 24)
 exact⟨w1,_,rfl,rfl,below_to hb1 hb2,(hb2.cell (p:=⟨w.heap.size,0,none⟩) (show w.heap.size<w1.heap.size by omega)).trans k0,(hb2.cell (p:=⟨w.heap.size,1,none⟩) (show w.heap.size<w1.heap.size by omega)).trans k1,four_new w1 _ _ _ _ _,by omega,by rw[alloc_size];omega⟩
theorem of_num (A B:Option Addr) (l c m d:Nat) (n:Int) (s:ByteArray) (ao:Option Addr) (len cap:Nat) (w:World)  :
  Calls prog 49 #[KE A l c B m d,.agg #[.int .i64 1,.int .i64 n,.string s,.slice ao len cap]] w (Comes w ⟨1,n,[]⟩):=by
 have hmf:=mkfunc
 obtain⟨w1,w2,hw1,hw2,hB,k0,k1,hXX,hs1,hs2⟩:=entO w A B l c m d 1 n s (.slice ao len cap)
 have HB:=hid hB
 obtain⟨-,e0,e1,e2,e3⟩:=hXX
 clear hB hs1 hs2
 go_enter func49,ntmps49
 go_wp2_with fail
 go_ret
 exact⟨rfl,HB.out⟩
theorem of_bool (A B:Option Addr) (l c m d:Nat) (n:Int) (s:ByteArray) (ao:Option Addr) (len cap:Nat) (w:World)  :
  Calls prog 49 #[KE A l c B m d,.agg #[.int .i64 3,.int .i64 n,.string s,.slice ao len cap]] w (Comes w ⟨2,n,[]⟩):=by
 have hmf:=mkfunc
 obtain⟨w1,w2,hw1,hw2,hB,k0,k1,hXX,hs1,hs2⟩:=entO w A B l c m d 3 n s (.slice ao len cap)
 have HB:=hid hB
 obtain⟨-,e0,e1,e2,e3⟩:=hXX
 clear hB hs1 hs2
 go_enter func49,ntmps49
 go_wp2_with fail
 go_ret
 exact⟨rfl,HB.out⟩
theorem of_text (A B:Option Addr) (l c m d:Nat) (n:Int) (t:List UInt8) (ao:Option Addr) (len cap:Nat) (w:World) :
  Calls prog 49 #[KE A l c B m d,.agg #[.int .i64 2,.int .i64 n,.string ⟨t.toArray⟩,.slice ao len cap]] w (Comes w ⟨3,0,t⟩):=by
 have HS:Hid (bxV ⟨3,0,t⟩=.iface 9 (.string ⟨t.toArray⟩)):=hid rfl
 generalize (⟨t.toArray⟩:ByteArray)=s at *
 have hmf:=mkfunc
 obtain⟨w1,w2,hw1,hw2,hB,k0,k1,hXX,hs1,hs2⟩:=entO w A B l c m d 2 n s (.slice ao len cap)
 have HB:=hid hB
 obtain⟨-,e0,e1,e2,e3⟩:=hXX
 clear hB hs1 hs2
 go_enter func49,ntmps49
 go_wp2_with fail
 go_ret
 exact⟨by rw[HS.out];rfl,HB.out⟩
theorem of_5 (A B:Option Addr) (l c m d:Nat) (n:Int) (s:ByteArray) (ao:Option Addr) (len cap:Nat) (w:World) (X:Va)
  (cF:∀ w' p,Below w.heap.size w w'→w'.cell? ⟨p,0,none⟩=some (.int .i64 5)→Calls prog 105 #[KE A l c B m d,.slice ao len cap,.func (.func 106) #[] #[]] w' (Comes w' X)) :
  Calls prog 49 #[KE A l c B m d,.agg #[.int .i64 5,.int .i64 n,.string s,.slice ao len cap]] w (Comes w X):=by
 have hmf:=mkfunc
 obtain⟨w1,w2,hw1,hw2,hB,k0,k1,hXX,hs1,hs2⟩:=entO w A B l c m d 5 n s (.slice ao len cap)
 have HB:=hid hB
 obtain⟨-,e0,e1,e2,e3⟩:=hXX
 have c1:=cF w2 w1.heap.size hB e0
 clear hB hs1 hs2 cF
 go_enter func49,ntmps49
 go_wp2_with fail
 refine c1.mono ?_
 rintro e w5 ⟨rfl,b5⟩
 go_wp2_with fail
 go_ret
 exact⟨rfl,below_to HB.out b5⟩
theorem of_7 (A B:Option Addr) (l c m d:Nat) (n:Int) (s:ByteArray) (ao:Option Addr) (len cap:Nat) (w:World) (X:Va)
  (cF:∀ w' p,Below w.heap.size w w'→w'.cell? ⟨p,0,none⟩=some (.int .i64 7)→Calls prog 108 #[KE A l c B m d,.slice ao len cap,.func (.func 109) #[] #[.pointer (some ⟨p,0,none⟩)]] w' (Comes w' X)) :
  Calls prog 49 #[KE A l c B m d,.agg #[.int .i64 7,.int .i64 n,.string s,.slice ao len cap]] w (Comes w X):=by
 have hmf:=mkfunc
 obtain⟨w1,w2,hw1,hw2,hB,k0,k1,hXX,hs1,hs2⟩:=entO w A B l c m d 7 n s (.slice ao len cap)
 have HB:=hid hB
 obtain⟨-,e0,e1,e2,e3⟩:=hXX
 have c1:=cF w2 w1.heap.size hB e0
 clear hB hs1 hs2 cF
 go_enter func49,ntmps49
 go_wp2_with fail
 refine c1.mono ?_
 rintro e w5 ⟨rfl,b5⟩
 go_wp2_with fail
 go_ret
 exact⟨rfl,below_to HB.out b5⟩
theorem of_8 (A B:Option Addr) (l c m d:Nat) (n:Int) (s:ByteArray) (ao:Option Addr) (len cap:Nat) (w:World) (X:Va)
  (cF:∀ w' p,Below w.heap.size w w'→w'.cell? ⟨p,0,none⟩=some (.int .i64 8)→Calls prog 108 #[KE A l c B m d,.slice ao len cap,.func (.func 109) #[] #[.pointer (some ⟨p,0,none⟩)]] w' (Comes w' X)) :
  Calls prog 49 #[KE A l c B m d,.agg #[.int .i64 8,.int .i64 n,.string s,.slice ao len cap]] w (Comes w X):=by
 have hmf:=mkfunc
 obtain⟨w1,w2,hw1,hw2,hB,k0,k1,hXX,hs1,hs2⟩:=entO w A B l c m d 8 n s (.slice ao len cap)
 have HB:=hid hB
 obtain⟨-,e0,e1,e2,e3⟩:=hXX
 have c1:=cF w2 w1.heap.size hB e0
 clear hB hs1 hs2 cF
 go_enter func49,ntmps49
 go_wp2_with fail
 refine c1.mono ?_
 rintro e w5 ⟨rfl,b5⟩
 go_wp2_with fail
 go_ret
 exact⟨rfl,below_to HB.out b5⟩
theorem of_9 (A B:Option Addr) (l c m d:Nat) (n:Int) (s:ByteArray) (ao:Option Addr) (len cap:Nat) (w:World) (X:Va)
  (cF:∀ w' p,Below w.heap.size w w'→w'.cell? ⟨p,0,none⟩=some (.int .i64 9)→Calls prog 108 #[KE A l c B m d,.slice ao len cap,.func (.func 109) #[] #[.pointer (some ⟨p,0,none⟩)]] w' (Comes w' X)) :
  Calls prog 49 #[KE A l c B m d,.agg #[.int .i64 9,.int .i64 n,.string s,.slice ao len cap]] w (Comes w X):=by
 have hmf:=mkfunc
 obtain⟨w1,w2,hw1,hw2,hB,k0,k1,hXX,hs1,hs2⟩:=entO w A B l c m d 9 n s (.slice ao len cap)
 have HB:=hid hB
 obtain⟨-,e0,e1,e2,e3⟩:=hXX
 have c1:=cF w2 w1.heap.size hB e0
 clear hB hs1 hs2 cF
 go_enter func49,ntmps49
 go_wp2_with fail
 refine c1.mono ?_
 rintro e w5 ⟨rfl,b5⟩
 go_wp2_with fail
 go_ret
 exact⟨rfl,below_to HB.out b5⟩
theorem of_10 (A B:Option Addr) (l c m d:Nat) (n:Int) (s:ByteArray) (ao:Option Addr) (len cap:Nat) (w:World) (X:Va)
  (cF:∀ w' p,Below w.heap.size w w'→w'.cell? ⟨p,0,none⟩=some (.int .i64 10)→Calls prog 108 #[KE A l c B m d,.slice ao len cap,.func (.func 109) #[] #[.pointer (some ⟨p,0,none⟩)]] w' (Comes w' X)) :
  Calls prog 49 #[KE A l c B m d,.agg #[.int .i64 10,.int .i64 n,.string s,.slice ao len cap]] w (Comes w X):=by
 have hmf:=mkfunc
 obtain⟨w1,w2,hw1,hw2,hB,k0,k1,hXX,hs1,hs2⟩:=entO w A B l c m d 10 n s (.slice ao len cap)
 have HB:=hid hB
 obtain⟨-,e0,e1,e2,e3⟩:=hXX
 have c1:=cF w2 w1.heap.size hB e0
 clear hB hs1 hs2 cF
 go_enter func49,ntmps49
 go_wp2_with fail
 refine c1.mono ?_
 rintro e w5 ⟨rfl,b5⟩
 go_wp2_with fail
 go_ret
 exact⟨rfl,below_to HB.out b5⟩
theorem of_11 (A B:Option Addr) (l c m d:Nat) (n:Int) (s:ByteArray) (ao:Option Addr) (len cap:Nat) (w:World) (X:Va)
  (cF:∀ w' p,Below w.heap.size w w'→w'.cell? ⟨p,0,none⟩=some (.int .i64 11)→Calls prog 108 #[KE A l c B m d,.slice ao len cap,.func (.func 109) #[] #[.pointer (some ⟨p,0,none⟩)]] w' (Comes w' X)) :
  Calls prog 49 #[KE A l c B m d,.agg #[.int .i64 11,.int .i64 n,.string s,.slice ao len cap]] w (Comes w X):=by
 have hmf:=mkfunc
 obtain⟨w1,w2,hw1,hw2,hB,k0,k1,hXX,hs1,hs2⟩:=entO w A B l c m d 11 n s (.slice ao len cap)
 have HB:=hid hB
 obtain⟨-,e0,e1,e2,e3⟩:=hXX
 have c1:=cF w2 w1.heap.size hB e0
 clear hB hs1 hs2 cF
 go_enter func49,ntmps49
 go_wp2_with fail
 refine c1.mono ?_
 rintro e w5 ⟨rfl,b5⟩
 go_wp2_with fail
 go_ret
 exact⟨rfl,below_to HB.out b5⟩
theorem of_6 (A B:Option Addr) (l c m d:Nat) (n:Int) (s:ByteArray) (ao:Option Addr) (len cap:Nat) (w:World) (X:Va)
  (cF:∀ w' p,Below w.heap.size w w'→w'.cell? ⟨p,0,none⟩=some (.int .i64 6)→Calls prog 110 #[KE A l c B m d,.slice ao len cap,.func (.func 111) #[] #[]] w' (Comes w' X)) :
  Calls prog 49 #[KE A l c B m d,.agg #[.int .i64 6,.int .i64 n,.string s,.slice ao len cap]] w (Comes w X):=by
 have hmf:=mkfunc
 obtain⟨w1,w2,hw1,hw2,hB,k0,k1,hXX,hs1,hs2⟩:=entO w A B l c m d 6 n s (.slice ao len cap)
 have HB:=hid hB
 obtain⟨-,e0,e1,e2,e3⟩:=hXX
 have c1:=cF w2 w1.heap.size hB e0
 clear hB hs1 hs2 cF
 go_enter func49,ntmps49
 go_wp2_with fail
 refine c1.mono ?_
 rintro e w5 ⟨rfl,b5⟩
 go_wp2_with fail
 go_ret
 exact⟨rfl,below_to HB.out b5⟩
theorem of_16 (A B:Option Addr) (l c m d:Nat) (n:Int) (s:ByteArray) (ao:Option Addr) (len cap:Nat) (w:World) (X:Va)
  (cF:∀ w' p,Below w.heap.size w w'→w'.cell? ⟨p,0,none⟩=some (.int .i64 16)→Calls prog 112 #[KE A l c B m d,.slice ao len cap,.bool false] w' (Comes w' X)) :
  Calls prog 49 #[KE A l c B m d,.agg #[.int .i64 16,.int .i64 n,.string s,.slice ao len cap]] w (Comes w X):=by
 have hmf:=mkfunc
 obtain⟨w1,w2,hw1,hw2,hB,k0,k1,hXX,hs1,hs2⟩:=entO w A B l c m d 16 n s (.slice ao len cap)
 have HB:=hid hB
 obtain⟨-,e0,e1,e2,e3⟩:=hXX
 have c1:=cF w2 w1.heap.size hB e0
 clear hB hs1 hs2 cF
 go_enter func49,ntmps49
 go_wp2_with fail
 refine c1.mono ?_
 rintro e w5 ⟨rfl,b5⟩
 go_wp2_with fail
 go_ret
 exact⟨rfl,below_to HB.out b5⟩
theorem of_17 (A B:Option Addr) (l c m d:Nat) (n:Int) (s:ByteArray) (ao:Option Addr) (len cap:Nat) (w:World) (X:Va)
  (cF:∀ w' p,Below w.heap.size w w'→w'.cell? ⟨p,0,none⟩=some (.int .i64 17)→Calls prog 112 #[KE A l c B m d,.slice ao len cap,.bool true] w' (Comes w' X)) :
  Calls prog 49 #[KE A l c B m d,.agg #[.int .i64 17,.int .i64 n,.string s,.slice ao len cap]] w (Comes w X):=by
 have hmf:=mkfunc
 obtain⟨w1,w2,hw1,hw2,hB,k0,k1,hXX,hs1,hs2⟩:=entO w A B l c m d 17 n s (.slice ao len cap)
 have HB:=hid hB
 obtain⟨-,e0,e1,e2,e3⟩:=hXX
 have c1:=cF w2 w1.heap.size hB e0
 clear hB hs1 hs2 cF
 go_enter func49,ntmps49
 go_wp2_with fail
 refine c1.mono ?_
 rintro e w5 ⟨rfl,b5⟩
 go_wp2_with fail
 go_ret
 exact⟨rfl,below_to HB.out b5⟩
theorem of_12 (A B:Option Addr) (l c m d:Nat) (n:Int) (s:ByteArray) (ao:Option Addr) (len cap:Nat) (w:World) (X:Va)
  (cF:∀ w' p,Below w.heap.size w w'→w'.cell? ⟨p,0,none⟩=some (.int .i64 12)→Calls prog 113 #[KE A l c B m d,.int .i64 12,.slice ao len cap] w' (Comes w' X)) :
  Calls prog 49 #[KE A l c B m d,.agg #[.int .i64 12,.int .i64 n,.string s,.slice ao len cap]] w (Comes w X):=by
 have hmf:=mkfunc
 obtain⟨w1,w2,hw1,hw2,hB,k0,k1,hXX,hs1,hs2⟩:=entO w A B l c m d 12 n s (.slice ao len cap)
 have HB:=hid hB
 obtain⟨-,e0,e1,e2,e3⟩:=hXX
 have c1:=cF w2 w1.heap.size hB e0
 clear hB hs1 hs2 cF
 go_enter func49,ntmps49
 go_wp2_with fail
 refine c1.mono ?_
 rintro e w5 ⟨rfl,b5⟩
 go_wp2_with fail
 go_ret
 exact⟨rfl,below_to HB.out b5⟩
theorem of_13 (A B:Option Addr) (l c m d:Nat) (n:Int) (s:ByteArray) (ao:Option Addr) (len cap:Nat) (w:World) (X:Va)
  (cF:∀ w' p,Below w.heap.size w w'→w'.cell? ⟨p,0,none⟩=some (.int .i64 13)→Calls prog 113 #[KE A l c B m d,.int .i64 13,.slice ao len cap] w' (Comes w' X)) :
  Calls prog 49 #[KE A l c B m d,.agg #[.int .i64 13,.int .i64 n,.string s,.slice ao len cap]] w (Comes w X):=by
 have hmf:=mkfunc
 obtain⟨w1,w2,hw1,hw2,hB,k0,k1,hXX,hs1,hs2⟩:=entO w A B l c m d 13 n s (.slice ao len cap)
 have HB:=hid hB
 obtain⟨-,e0,e1,e2,e3⟩:=hXX
 have c1:=cF w2 w1.heap.size hB e0
 clear hB hs1 hs2 cF
 go_enter func49,ntmps49
 go_wp2_with fail
 refine c1.mono ?_
 rintro e w5 ⟨rfl,b5⟩
 go_wp2_with fail
 go_ret
 exact⟨rfl,below_to HB.out b5⟩
theorem of_14 (A B:Option Addr) (l c m d:Nat) (n:Int) (s:ByteArray) (ao:Option Addr) (len cap:Nat) (w:World) (X:Va)
  (cF:∀ w' p,Below w.heap.size w w'→w'.cell? ⟨p,0,none⟩=some (.int .i64 14)→Calls prog 113 #[KE A l c B m d,.int .i64 14,.slice ao len cap] w' (Comes w' X)) :
  Calls prog 49 #[KE A l c B m d,.agg #[.int .i64 14,.int .i64 n,.string s,.slice ao len cap]] w (Comes w X):=by
 have hmf:=mkfunc
 obtain⟨w1,w2,hw1,hw2,hB,k0,k1,hXX,hs1,hs2⟩:=entO w A B l c m d 14 n s (.slice ao len cap)
 have HB:=hid hB
 obtain⟨-,e0,e1,e2,e3⟩:=hXX
 have c1:=cF w2 w1.heap.size hB e0
 clear hB hs1 hs2 cF
 go_enter func49,ntmps49
 go_wp2_with fail
 refine c1.mono ?_
 rintro e w5 ⟨rfl,b5⟩
 go_wp2_with fail
 go_ret
 exact⟨rfl,below_to HB.out b5⟩
theorem of_15 (A B:Option Addr) (l c m d:Nat) (n:Int) (s:ByteArray) (ao:Option Addr) (len cap:Nat) (w:World) (X:Va)
  (cF:∀ w' p,Below w.heap.size w w'→w'.cell? ⟨p,0,none⟩=some (.int .i64 15)→Calls prog 113 #[KE A l c B m d,.int .i64 15,.slice ao len cap] w' (Comes w' X)) :
  Calls prog 49 #[KE A l c B m d,.agg #[.int .i64 15,.int .i64 n,.string s,.slice ao len cap]] w (Comes w X):=by
 have hmf:=mkfunc
 obtain⟨w1,w2,hw1,hw2,hB,k0,k1,hXX,hs1,hs2⟩:=entO w A B l c m d 15 n s (.slice ao len cap)
 have HB:=hid hB
 obtain⟨-,e0,e1,e2,e3⟩:=hXX
 have c1:=cF w2 w1.heap.size hB e0
 clear hB hs1 hs2 cF
 go_enter func49,ntmps49
 go_wp2_with fail
 refine c1.mono ?_
 rintro e w5 ⟨rfl,b5⟩
 go_wp2_with fail
 go_ret
 exact⟨rfl,below_to HB.out b5⟩
theorem of_18 (A B:Option Addr) (l c m d:Nat) (n:Int) (s:ByteArray) (ao:Option Addr) (len cap:Nat) (w:World) (X:Va)
  (cF:∀ w' p,Below w.heap.size w w'→w'.cell? ⟨p,0,none⟩=some (.int .i64 18)→Calls prog 114 #[KE A l c B m d,.slice ao len cap] w' (Comes w' X)) :
  Calls prog 49 #[KE A l c B m d,.agg #[.int .i64 18,.int .i64 n,.string s,.slice ao len cap]] w (Comes w X):=by
 have hmf:=mkfunc
 obtain⟨w1,w2,hw1,hw2,hB,k0,k1,hXX,hs1,hs2⟩:=entO w A B l c m d 18 n s (.slice ao len cap)
 have HB:=hid hB
 obtain⟨-,e0,e1,e2,e3⟩:=hXX
 have c1:=cF w2 w1.heap.size hB e0
 clear hB hs1 hs2 cF
 go_enter func49,ntmps49
 go_wp2_with fail
 refine c1.mono ?_
 rintro e w5 ⟨rfl,b5⟩
 go_wp2_with fail
 go_ret
 exact⟨rfl,below_to HB.out b5⟩
theorem of_19 (A B:Option Addr) (l c m d:Nat) (n:Int) (s:ByteArray) (ao:Option Addr) (len cap:Nat) (w:World) (X:Va)
  (cF:∀ w' p,Below w.heap.size w w'→w'.cell? ⟨p,0,none⟩=some (.int .i64 19)→Calls prog 115 #[KE A l c B m d,.slice ao len cap,.func (.func 116) #[] #[]] w' (Comes w' X)) :
  Calls prog 49 #[KE A l c B m d,.agg #[.int .i64 19,.int .i64 n,.string s,.slice ao len cap]] w (Comes w X):=by
 have hmf:=mkfunc
 obtain⟨w1,w2,hw1,hw2,hB,k0,k1,hXX,hs1,hs2⟩:=entO w A B l c m d 19 n s (.slice ao len cap)
 have HB:=hid hB
 obtain⟨-,e0,e1,e2,e3⟩:=hXX
 have c1:=cF w2 w1.heap.size hB e0
 clear hB hs1 hs2 cF
 go_enter func49,ntmps49
 go_wp2_with fail
 refine c1.mono ?_
 rintro e w5 ⟨rfl,b5⟩
 go_wp2_with fail
 go_ret
 exact⟨rfl,below_to HB.out b5⟩
theorem of_20 (A B:Option Addr) (l c m d:Nat) (n:Int) (s:ByteArray) (ao:Option Addr) (len cap:Nat) (w:World) (X:Va)
  (cF:∀ w' p,Below w.heap.size w w'→w'.cell? ⟨p,0,none⟩=some (.int .i64 20)→Calls prog 118 #[KE A l c B m d,.slice ao len cap,.func (.func 119) #[] #[]] w' (Comes w' X)) :
  Calls prog 49 #[KE A l c B m d,.agg #[.int .i64 20,.int .i64 n,.string s,.slice ao len cap]] w (Comes w X):=by
 have hmf:=mkfunc
 obtain⟨w1,w2,hw1,hw2,hB,k0,k1,hXX,hs1,hs2⟩:=entO w A B l c m d 20 n s (.slice ao len cap)
 have HB:=hid hB
 obtain⟨-,e0,e1,e2,e3⟩:=hXX
 have c1:=cF w2 w1.heap.size hB e0
 clear hB hs1 hs2 cF
 go_enter func49,ntmps49
 go_wp2_with fail
 refine c1.mono ?_
 rintro e w5 ⟨rfl,b5⟩
 go_wp2_with fail
 go_ret
 exact⟨rfl,below_to HB.out b5⟩
theorem of_21 (A B:Option Addr) (l c m d:Nat) (n:Int) (s:ByteArray) (ao:Option Addr) (len cap:Nat) (w:World) (X:Va)
  (cF:∀ w' p,Below w.heap.size w w'→w'.cell? ⟨p,0,none⟩=some (.int .i64 21)→Calls prog 121 #[KE A l c B m d,.slice ao len cap,.func (.func 122) #[] #[]] w' (Comes w' X)) :
  Calls prog 49 #[KE A l c B m d,.agg #[.int .i64 21,.int .i64 n,.string s,.slice ao len cap]] w (Comes w X):=by
 have hmf:=mkfunc
 obtain⟨w1,w2,hw1,hw2,hB,k0,k1,hXX,hs1,hs2⟩:=entO w A B l c m d 21 n s (.slice ao len cap)
 have HB:=hid hB
 obtain⟨-,e0,e1,e2,e3⟩:=hXX
 have c1:=cF w2 w1.heap.size hB e0
 clear hB hs1 hs2 cF
 go_enter func49,ntmps49
 go_wp2_with fail
 refine c1.mono ?_
 rintro e w5 ⟨rfl,b5⟩
 go_wp2_with fail
 go_ret
 exact⟨rfl,below_to HB.out b5⟩
theorem of_23 (A B:Option Addr) (l c m d:Nat) (n:Int) (s:ByteArray) (ao:Option Addr) (len cap:Nat) (w:World) (X:Va)
  (cF:∀ w' p,Below w.heap.size w w'→w'.cell? ⟨p,0,none⟩=some (.int .i64 23)→Calls prog 115 #[KE A l c B m d,.slice ao len cap,.func (.func 124) #[] #[]] w' (Comes w' X)) :
  Calls prog 49 #[KE A l c B m d,.agg #[.int .i64 23,.int .i64 n,.string s,.slice ao len cap]] w (Comes w X):=by
 have hmf:=mkfunc
 obtain⟨w1,w2,hw1,hw2,hB,k0,k1,hXX,hs1,hs2⟩:=entO w A B l c m d 23 n s (.slice ao len cap)
 have HB:=hid hB
 obtain⟨-,e0,e1,e2,e3⟩:=hXX
 have c1:=cF w2 w1.heap.size hB e0
 clear hB hs1 hs2 cF
 go_enter func49,ntmps49
 go_wp2_with fail
 refine c1.mono ?_
 rintro e w5 ⟨rfl,b5⟩
 go_wp2_with fail
 go_ret
 exact⟨rfl,below_to HB.out b5⟩
theorem of_name (A B:Option Addr) (l c m d:Nat) (n:Int) (s:ByteArray) (ao:Option Addr) (len cap:Nat) (w:World) (X:Va)
  (cF:∀ w',Below w.heap.size w w'→Calls prog 103 #[KE A l c B m d,.string s] w' (Comes w' X)) :
  Calls prog 49 #[KE A l c B m d,.agg #[.int .i64 4,.int .i64 n,.string s,.slice ao len cap]] w (Comes w X):=by
 have hmf:=mkfunc
 obtain⟨w1,w2,hw1,hw2,hB,k0,k1,hXX,hs1,hs2⟩:=entO w A B l c m d 4 n s (.slice ao len cap)
 have HB:=hid hB
 obtain⟨-,e0,e1,e2,e3⟩:=hXX
 have c1:=cF w2 hB
 clear hB hs1 hs2 cF
 go_enter func49,ntmps49
 go_wp2_with fail
 refine c1.mono ?_
 rintro e w5 ⟨rfl,b5⟩
 go_wp2_with fail
 go_ret
 exact⟨rfl,below_to HB.out b5⟩
theorem of_22 (A B:Option Addr) (l c m d:Nat) (n:Int) (s:ByteArray) (g o len cap:Nat) (w:World) (X:Va) (t:ByteArray) (hX:X.ok) (hlen:0<len) (t0:w.cell? ⟨g,o+2,none⟩=some (.string t))
  (cF:∀ w',Below w.heap.size w w'→Calls prog 103 #[KE A l c B m d,.string t] w' (Comes w' X)) :
  Calls prog 49 #[KE A l c B m d,.agg #[.int .i64 22,.int .i64 n,.string s,.slice (some ⟨g,o,none⟩) len cap]] w (Comes w (truV (hasV X))):=by
 have hmf:=mkfunc
 obtain⟨w1,w2,hw1,hw2,hB,k0,k1,hXX,hs1,hs2⟩:=entO w A B l c m d 22 n s (.slice (some ⟨g,o,none⟩) len cap)
 have HB:=hid hB
 obtain⟨-,e0,e1,e2,e3⟩:=hXX
 have hgl:g<w.heap.size:=World.block_lt_of_cell? w _ t0
 have t0:=(hB.cell (p:=⟨g,o+2,none⟩) hgl).trans t0
 have gk:w.heap.size<w2.heap.size:=by omega
 have ge:w1.heap.size<w2.heap.size:=by omega
 have gg:g<w2.heap.size:=by omega
 have cK:∀ w',Below w2.heap.size w2 w'→Calls prog 103 #[KE A l c B m d,.string t] w' (Comes w' X):=fun w' hw=>cF w' (below_to HB.out hw)
 have cH:=fun w=>has_any X hX w
 have HV:Hid (∀ R:Bool,bxV (truV R)=.iface 4 (.bool R)):=hid (fun R=>by cases R<;>rfl)
 generalize hasV X=R at *
 clear hB hs1 hs2 cF hgl
 go_enter func49,ntmps49
 go_wp2_with fail
 refine wp_region_held_drew (S:=fun w'=>Below w2.heap.size w2 w') (by kernel_rfl) ((Below.refl _ _).drew) (fun hHeld=>?_)
 refine held_take (i:=0) (v:=?_) rfl (by kernel_rfl) (by kernel_rfl) (by kernel_rfl) (fun _ _ _ h=>h) (by rfl) hHeld ?_ ?_
 rotate_left
 ·intro wz hSz;have q0:=(hSz.cell (p:=⟨w.heap.size,0,none⟩) gk).trans k0;have q1:=(hSz.cell (p:=⟨w.heap.size,1,none⟩) gk).trans k1;go_simp;try with_reducible rfl
 simp only[Act.put,List.setIfInBounds_toArray,List.set_cons_zero,List.set_cons_succ]
 refine held_take (i:=1) (v:=?_) rfl (by kernel_rfl) (by kernel_rfl) (by kernel_rfl) (fun _ _ _ h=>h) (by rfl) hHeld ?_ ?_
 rotate_left
 ·intro wz hSz;go_simp;try with_reducible rfl
 simp only[Act.put,List.setIfInBounds_toArray,List.set_cons_zero,List.set_cons_succ]
 refine held_take (i:=2) (v:=?_) rfl (by kernel_rfl) (by kernel_rfl) (by kernel_rfl) (fun _ _ _ h=>h) (by rfl) hHeld ?_ ?_
 rotate_left
 ·intro wz hSz;have q0:=(hSz.cell (p:=⟨w1.heap.size,3,none⟩) ge).trans e3;go_simp;try with_reducible rfl
 simp only[Act.put,List.setIfInBounds_toArray,List.set_cons_zero,List.set_cons_succ]
 refine held_take (i:=3) (v:=?_) rfl (by kernel_rfl) (by kernel_rfl) (by kernel_rfl) (fun _ _ _ h=>h) (by rfl) hHeld ?_ ?_
 rotate_left
 ·intro wz hSz;go_simp;try with_reducible rfl
 simp only[Act.put,List.setIfInBounds_toArray,List.set_cons_zero,List.set_cons_succ]
 refine held_take (i:=4) (v:=?_) rfl (by kernel_rfl) (by kernel_rfl) (by kernel_rfl) (fun _ _ _ h=>h) (by rfl) hHeld ?_ ?_
 rotate_left
 ·intro wz hSz;go_simp;try with_reducible rfl
 simp only[Act.put,List.setIfInBounds_toArray,List.set_cons_zero,List.set_cons_succ]
 refine held_take (i:=5) (v:=?_) rfl (by kernel_rfl) (by kernel_rfl) (by kernel_rfl) (fun _ _ _ h=>h) (by rfl) hHeld ?_ ?_
 rotate_left
 ·intro wz hSz;have q0:=(hSz.cell (p:=⟨g,o+2,none⟩) gg).trans t0;go_simp;try with_reducible rfl
 simp only[Act.put,List.setIfInBounds_toArray,List.set_cons_zero,List.set_cons_succ]
 refine held_call (i:=6) (by kernel_rfl) rfl (by rfl) (by go_simp;try with_reducible rfl) (cK _ hHeld) ?_
 rintro e wy ⟨rfl,hy⟩
 refine⟨_,rfl,below_to hHeld hy,?_⟩
 replace hHeld:=below_to hHeld hy
 simp only[Act.put,List.setIfInBounds_toArray,List.set_cons_zero,List.set_cons_succ]
 refine held_call (i:=7) (by kernel_rfl) rfl (by rfl) (by go_simp;try with_reducible rfl) (cH _) ?_
 rintro e wy ⟨rfl,rfl⟩
 refine⟨_,rfl,hHeld,?_⟩
 replace hHeld:=hHeld
 simp only[Act.put,List.setIfInBounds_toArray,List.set_cons_zero,List.set_cons_succ]
 refine held_take (i:=8) (v:=?_) rfl (by kernel_rfl) (by kernel_rfl) (by kernel_rfl) (fun _ _ _ h=>h) (by rfl) hHeld ?_ ?_
 rotate_left
 ·intro wz hSz;go_simp;try with_reducible rfl
 simp only[Act.put,List.setIfInBounds_toArray,List.set_cons_zero,List.set_cons_succ]
 refine held_take (i:=9) (v:=?_) rfl (by kernel_rfl) (by kernel_rfl) (by kernel_rfl) (fun _ _ _ h=>h) (by rfl) hHeld ?_ ?_
 rotate_left
 ·intro wz hSz;go_simp;try with_reducible rfl
 simp only[Act.put,List.setIfInBounds_toArray,List.set_cons_zero,List.set_cons_succ]
 refine wpAnyH_done (by kernel_rfl) ?_ _
 have HB5:=hid (below_to HB.out hHeld)
 go_wp2_with fail
 go_ret
 exact⟨by rw[HV.out];rfl,HB5.out⟩
end
end Go.Proofs.YtbbblmedoagncaaGreatDoor
