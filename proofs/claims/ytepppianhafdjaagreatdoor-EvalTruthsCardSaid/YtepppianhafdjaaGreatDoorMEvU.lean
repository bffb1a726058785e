/- eval's upper: of$7, what stands behind it. -/
import Derived.Test.YtepppianhafdjaaGreatDoorMUp
import Derived.Test.YtepppianhafdjaaGreatDoorMEvE
namespace Go.Proofs.YtepppianhafdjaaGreatDoor
open Go.RowKit
theorem len_cnt (l : List UInt8) : l.length ≤ 4 * countL l := by
  refine pcs_induct (Q := fun l => l.length ≤ 4 * countL l) (by simp) ?_ l
  intro l hne ih
  have h4 := decodeL_four l
  have : countL l = countL (l.drop (Lib.decodeL l).2) + 1 := by unfold countL; rw [pcs_step l hne]; simp
  rw [List.length_drop] at ih
  omega
theorem do_up (t : List UInt8) (w : World) (ht : t.length ≤ 400) (hl : (foldL t).length ≤ 100000) (hT : Tabs w) : Calls Tryz.prog 58 #[.string ⟨t.toArray⟩] w (Comes w (texV (foldL t))) := by
  have hs : (⟨t.toArray⟩ : ByteArray).size ≤ 17592186044416 := by show t.toArray.size ≤ _; rw [List.size_toArray]; omega
  have cF := fold_any ⟨t.toArray⟩ w hs hT
  have cT := fun w' (hb : Below w.heap.size w w') => evtext_any (foldL t) w' hl (hT.later hb)
  rw [show (⟨t.toArray⟩ : ByteArray).data.toList = t from rfl] at cF
  generalize (⟨t.toArray⟩ : ByteArray) = S at *
  generalize (⟨(foldL t).toArray⟩ : ByteArray) = U at *
  clear hs
  go_enter Tryz.func58, Tryz.ntmps58
  go_wp2_with fail
  refine cF.mono ?_
  rintro e w1 ⟨rfl, b1⟩
  have cT := cT w1 b1
  go_wp2_with fail
  refine cT.mono ?_
  rintro e w2 ⟨rfl, b2⟩
  go_wp2_with fail
  go_ret
  exact ⟨rfl, below_to b1 b2⟩
theorem count_few (l : List UInt8) : countL l ≤ l.length := by
  have := pieces_len ⟨l.toArray⟩ (pcs l) rfl
  have h1 : (⟨l.toArray⟩ : ByteArray).size = l.length := List.size_toArray
  unfold countL
  omega
theorem eval_all (N : List ByteArray) (V : List Va) (A B : Option Addr) (cA cB : Nat) (e : Ex) (v : Value) (S : Nat → Prop) (w : World) (hE : EnvP w) (hv : ExIn w S e v) (hK : Knows w N V A B) :
    Calls Tryz.prog 15 #[v, .slice A N.length cA, .slice B V.length cB] w fun en w' => en = .returned (vaV (evA N V e)) ∧ Below w.heap.size w w' :=
  eval_any N V A B cA cB (fun t w ht _ hT => do_up t w ht (by have h1 := len_cnt (foldL t); have h2 := count_few t; rw [count_fold] at h1; omega) hT) e v S w hE hv hK
end Go.Proofs.YtepppianhafdjaaGreatDoor
