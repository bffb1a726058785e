/- LexQ -/
import Derived.Test.YtbbblmedoagncaaGreatDoorSGH
import Derived.IntWalk
import Derived.Laws.BitsAllLaws
namespace Go.Proofs.YtbbblmedoagncaaGreatDoor
section
open Go.RowKit
theorem quoteM_at (s:ByteArray) (pos:Nat) (h:pos<s.size):quoteM (s.data.toList.drop pos)=quoteR (Utf8.decode s pos).1++quoteM (s.data.toList.drop (pos+(Utf8.decode s pos).2)):=by
 rw[quoteM_step _ (drop_ne s pos h),Lib.decodeL_drop,List.drop_drop]
theorem quoteR_len6 (r:Nat):(quoteR r).length≤6:=by
 unfold quoteR
 split
 ·simp
 ·split
  ·simp[hexL]
  ·have:=Lib.runeCells_le (r:Int);rw[Lib.runeCells_length] at this;omega
def QRel (s:ByteArray) (B K:Nat) (w wr:World) (pos:Nat) (acc:List UInt8):Prop :=
 Lib.IsBuilderF 200 5 B B (Lib.byteCells acc) wr∧wr.heap[K]?=some (.stringIter s pos)∧Below B w wr∧acc++(quoteM (s.data.toList.drop pos)++[34])=quoteL s.data.toList∧acc.length≤1+6 * pos∧pos≤s.size
theorem QRel.next {s:ByteArray} {B K:Nat} {w w2:World} {pos:Nat} {acc N:List UInt8} (hp:pos<s.size) (hacc:acc++(quoteM (s.data.toList.drop pos)++[34])=quoteL s.data.toList) (hal:acc.length≤1+6 * pos) (hN:quoteR (Utf8.decode s pos).1=N)
  (h1:Lib.IsBuilderF 200 5 B B (Lib.byteCells (acc++N)) w2) (hit:w2.heap[K]?=some (.stringIter s (pos+(Utf8.decode s pos).2))) (hb:Below B w w2) :
  ∃ pos acc,QRel s B K w w2 pos acc:=by
 subst hN
 obtain⟨hw1,hw2⟩:=width_in s pos hp
 refine⟨pos+(Utf8.decode s pos).2,acc++quoteR (Utf8.decode s pos).1,h1,hit,hb,?_,?_,hw2⟩
 ·rw[quoteM_at s pos hp,List.append_assoc] at hacc
  rw[List.append_assoc];exact hacc
 ·have:=quoteR_len6 (Utf8.decode s pos).1
  rw[List.length_append];omega
end
end Go.Proofs.YtbbblmedoagncaaGreatDoor
