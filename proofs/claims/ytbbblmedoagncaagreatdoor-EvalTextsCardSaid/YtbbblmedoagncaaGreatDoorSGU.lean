/- ParBk -/
import Derived.Test.YtbbblmedoagncaaGreatDoorSGQ
namespace Go.Proofs.YtbbblmedoagncaaGreatDoor
section
theorem says_chk {l:List UInt8} {e:Ex} (h:Says l (.ok e)):chkB e=true:=by
 rcases h with ⟨_,h⟩ | ⟨_,⟨p,_,h⟩ | ⟨ts,r,_,_,h⟩⟩
 ·cases h
 ·cases h
 ·unfold endR at h
  split at h
  ·cases h
  ·split at h
   ·injection h with h;subst h;assumption
   ·cases h
theorem says_err {l:List UInt8} {q:Nat × Nat} (h:Says l (.error q)):q.2=5∨q.2=6∨q.2=7:=by
 rcases h with ⟨_,h⟩ | ⟨_,⟨p,_,h⟩ | ⟨ts,r,_,_,h⟩⟩
 ·injection h with h;subst h;exact .inr (.inr rfl)
 ·injection h with h;subst h;exact .inl rfl
 ·unfold endR at h
  split at h
  ·injection h with h;subst h;exact .inr (.inl rfl)
  ·split at h
   ·cases h
   ·injection h with h;subst h;exact .inr (.inr rfl)
end
end Go.Proofs.YtbbblmedoagncaaGreatDoor
