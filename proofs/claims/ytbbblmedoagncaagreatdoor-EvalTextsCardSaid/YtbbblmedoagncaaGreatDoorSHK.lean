/- FitE -/
import Derived.Test.YtbbblmedoagncaaGreatDoorSGJ
import Derived.Test.YtbbblmedoagncaaGreatDoorSGG
namespace Go.Proofs.YtbbblmedoagncaaGreatDoor
section
open Go.RowKit
mutual
theorem ExIn.fit {w:World} {S:Nat→Prop}:∀ (e:Ex) (v:Value),ExIn w S e v→fitE e
 | .mk op n s ks,v,h=>by
  rw[ExIn] at h
  obtain⟨hr,ao,cap,h1,h2,h3,h4⟩:=h
  rw[fitE]
  refine⟨hr.2.1.2,?_⟩
  cases ks with
  | nil=>rw[fitL];trivial
  | cons k ks =>
   obtain⟨g,o,-,-,-,hrow⟩:=h4 (by simp)
   exact RowIn.fit (k :: ks) g o hrow
theorem RowIn.fit {w:World} {S:Nat→Prop}:∀ (es:List Ex) (g o:Nat),RowIn w S g o es→fitL es
 | [],_,_,_=>by rw[fitL];trivial
 | e :: es,g,o,h=>by
  rw[RowIn] at h
  obtain⟨-,⟨v0,v1,v2,v3,-,-,-,-,he⟩,hr⟩:=h
  rw[fitL]
  exact⟨ExIn.fit e _ he,RowIn.fit es g (o+4) hr⟩
end
end
end Go.Proofs.YtbbblmedoagncaaGreatDoor
