/- A value that came in, opened (layer 5's, which the elder VFrame alone has). -/
import Derived.Test.YtepppianhafdjaaGreatDoorMEvLw
namespace Go.Proofs.YtepppianhafdjaaGreatDoor
open Go.ChangeShapes Go.WideShapes Go.ChangeAt Go.RowKit Go.Lib Go.Shelf
set_option maxRecDepth 1000000 in
/-- A value that came in, opened; and shut again. -/
theorem open_val {H : Type} {enc : TypeId × Value → H} {w : World} {base : Nat} {sp : Nat → Bool} {held : Bool} {r : Reach} {b0 : Nat} {v : Value} {d : DataW H} {p : List MemPlace}
    (hv : Value.okWide Tryz.prog w r b0 23 v) (h : DataW.Trod enc Tryz.prog w base sp held 23 v d p) :
    ∃ (K n : Int) (s : ByteArray), v = V3 K n s ∧ p = [] ∧ (∀ w' sp', DataW.Trod enc Tryz.prog w' base sp' held 23 (V3 K n s) d []) ∧ -9223372036854775808 ≤ K ∧ K ≤ 9223372036854775807 ∧ -9223372036854775808 ≤ n ∧ n ≤ 9223372036854775807 ∧ s.size ≤ maxLen ∧ d = .agg [.lit (.int .i64 K), .lit (.int .i64 n), .lit (.string s.data.toList)] := by
  obtain ⟨c0, c1, c2, y0, y1, y2, m, rfl, rfl, rfl, hy0, hy1, hy2⟩ := Go.Joins.open_agg3 Tryz.underlying23 (by kernel_rfl) (by kernel_rfl) hv h
  obtain ⟨K, e0, rfl, w0⟩ := DataW.trod_int Tryz.underlying3 hy0
  obtain ⟨n, e1, rfl, w1⟩ := DataW.trod_int Tryz.underlying2 hy1
  obtain ⟨s, e2, rfl, w2⟩ := DataW.trod_string Tryz.underlying9 hy2
  simp at e0 e1 e2
  subst e0 e1 e2
  have b0 := bounds_i64 w0
  have b1 := bounds_i64 w1
  refine ⟨K, n, s, rfl, rfl, fun w' sp' => ?_, b0.1, b0.2, b1.1, b1.2, w2, rfl⟩
  exact Go.Joins.shut_agg3 (y0 := (.lit (.int .i64 K), [])) (y1 := (.lit (.int .i64 n), [])) (y2 := (.lit (.string s.data.toList), [])) Tryz.underlying23 (by kernel_rfl) (by kernel_rfl)
    ⟨1, by simp [DataW.trod, Tryz.underlying3, w0]⟩ ⟨1, by simp [DataW.trod, Tryz.underlying2, w1]⟩ ⟨1, by simp [DataW.trod, Tryz.underlying9, w2]⟩
end Go.Proofs.YtepppianhafdjaaGreatDoor
