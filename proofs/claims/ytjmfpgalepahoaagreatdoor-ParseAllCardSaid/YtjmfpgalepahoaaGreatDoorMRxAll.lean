/- The document's own parser: all of its parts, by the fuel of the reckoning. -/
import Derived.Test.YtjmfpgalepahoaaGreatDoorMRxM
import Derived.Test.YtjmfpgalepahoaaGreatDoorMRxC
import Derived.Test.YtjmfpgalepahoaaGreatDoorMRxT
import Derived.Test.YtjmfpgalepahoaaGreatDoorMRxH
namespace Go.Proofs.YtjmfpgalepahoaaGreatDoor
open Go.RowKit
section
variable (w0 : World) (g : Nat) (T : List Tk) (h cap : Nat)
/-- What the parts answer, by a fuel. -/
structure XAll (f : Nat) : Prop where
  or : ∀ (w : World) (i : Nat) r, XG w0 w g T h cap i (-1) → pE f 0 (T.drop i) = some r → Calls Tryz.prog 36 #[.pointer (some ⟨g, 0, none⟩)] w (XEnd w0 w g T h cap r)
  and : ∀ (w : World) (i : Nat) r, XG w0 w g T h cap i (-1) → pE f 1 (T.drop i) = some r → Calls Tryz.prog 70 #[.pointer (some ⟨g, 0, none⟩)] w (XEnd w0 w g T h cap r)
  cmp : ∀ (w : World) (i : Nat) r, XG w0 w g T h cap i (-1) → pE f 2 (T.drop i) = some r → Calls Tryz.prog 137 #[.pointer (some ⟨g, 0, none⟩)] w (XEnd w0 w g T h cap r)
  sum : ∀ (w : World) (i : Nat) r, XG w0 w g T h cap i (-1) → pE f 3 (T.drop i) = some r → Calls Tryz.prog 206 #[.pointer (some ⟨g, 0, none⟩)] w (XEnd w0 w g T h cap r)
  product : ∀ (w : World) (i : Nat) r, XG w0 w g T h cap i (-1) → pE f 4 (T.drop i) = some r → Calls Tryz.prog 239 #[.pointer (some ⟨g, 0, none⟩)] w (XEnd w0 w g T h cap r)
  five : ∀ (w : World) (i : Nat) r, XG w0 w g T h cap i (-1) → pE f 5 (T.drop i) = some r → Calls Tryz.prog 256 #[.pointer (some ⟨g, 0, none⟩)] w (XEnd w0 w g T h cap r)
  unary : ∀ (w : World) (i : Nat) r, XG w0 w g T h cap i (-1) → pU f (T.drop i) = some r → Calls Tryz.prog 256 #[.pointer (some ⟨g, 0, none⟩)] w (XEnd w0 w g T h cap r)
  atom : ∀ (w : World) (i : Nat) r, XG w0 w g T h cap i (-1) → pA f (T.drop i) = some r → Calls Tryz.prog 261 #[.pointer (some ⟨g, 0, none⟩)] w (XEnd w0 w g T h cap r)
  word : ∀ (w : World) (i : Nat) (t : Tk) r, XG w0 w g T h cap i (-1) → T[i]? = some t → t.k = 3 → pW f t.s (T.drop (i + 1)) = some r → Calls Tryz.prog 262 #[.pointer (some ⟨g, 0, none⟩), .string ⟨t.s.toArray⟩] w (XEnd w0 w g T h cap r)
  args : ∀ (w : World) (i op n : Nat) r, 1 ≤ n → n ≤ 3 → op ≤ 100 → XG w0 w g T h cap i (-1) → pX f op n (T.drop i) = some r → Calls Tryz.prog 264 #[.pointer (some ⟨g, 0, none⟩), .int .i64 (op : Int), .int .i64 (n : Int)] w (XEnd w0 w g T h cap r)
end
theorem xall (w0 : World) (g : Nat) (T : List Tk) (h cap : Nat) (f : Nat) : XAll w0 g T h cap f := by
  induction f using Nat.strongRecOn with
  | _ f ih =>
    have hA : ∀ (w : World) (i op n : Nat) r, 1 ≤ n → n ≤ 3 → op ≤ 100 → XG w0 w g T h cap i (-1) → pX f op n (T.drop i) = some r → Calls Tryz.prog 264 #[.pointer (some ⟨g, 0, none⟩), .int .i64 (op : Int), .int .i64 (n : Int)] w (XEnd w0 w g T h cap r) :=
      fun w i op n r h1 h2 h3 p hr => xargs_step (fun k hk => (ih k hk).or) w i op n r h1 h2 h3 p hr
    cases f with
    | zero =>
      refine ⟨?_, ?_, ?_, ?_, ?_, ?_, ?_, ?_, ?_, hA⟩
      · intro w i r p hr; rw [pE] at hr; cases hr
      · intro w i r p hr; rw [pE] at hr; cases hr
      · intro w i r p hr; rw [pE] at hr; cases hr
      · intro w i r p hr; rw [pE] at hr; cases hr
      · intro w i r p hr; rw [pE] at hr; cases hr
      · intro w i r p hr; rw [pE] at hr; cases hr
      · intro w i r p hr; rw [pU] at hr; cases hr
      · intro w i r p hr; rw [pA] at hr; cases hr
      · intro w i t r p ht hk hr; rw [pW] at hr; cases hr
    | succ f =>
      have I := ih f (Nat.lt_succ_self f)
      refine ⟨xor_step I.and, xand_step I.cmp, xcmp_step I.sum, xsum_step I.product, xproduct_step I.five, ?_, xunary_step I.unary I.atom, xatom_step I.word I.or, ?_, hA⟩
      · intro w i r p hr
        rw [pE, if_neg (by decide)] at hr
        exact I.unary w i r p hr
      · intro w i t r p ht hk hr
        exact xword_step I.args w i t.s r (by have := p.good.size t (List.mem_of_getElem? ht); omega) p (p.next ht (by omega)) hr (fun hw hh => xhas_step w i t.s r p (p.next ht (by omega)) hw hh)
end Go.Proofs.YtjmfpgalepahoaaGreatDoor
