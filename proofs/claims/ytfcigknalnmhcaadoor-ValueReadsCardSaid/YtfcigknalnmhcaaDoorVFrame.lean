/- What every law's frame needs: the tables' contents out of the row's condition, the start that meets it. -/
import Derived.Test.YtfcigknalnmhcaaDoorVAwake
import Derived.Test.YtfcigknalnmhcaaDoorBytes
import Derived.Test.YtfcigknalnmhcaaDoorTie
import Derived.Test.YtfcigknalnmhcaaDoorCards
import Derived.ProofKit
import Derived.PinnedBridge
import Derived.Lib.LaidU8T
import Derived.Lib.LaidIn
import Derived.Lib.LaidTab
import Derived.Lib.SmallJoins
import Derived.Lay
import Derived.LaidOnce
import Derived.SevenTiedAt
import Derived.OpenShut
import Derived.Stop.LaidErr
namespace Go.Proofs.YtfcigknalnmhcaaDoor
open Go.ChangeShapes Go.WideShapes Go.ChangeAt Go.RowKit Go.Lib Go.Shelf

def tabsLaid : List (String × DataW Unit) := [("math/bits.deBruijn32tab", Rows.laid_math_bits_deBruijn32tab), ("math/bits.deBruijn64tab", Rows.laid_math_bits_deBruijn64tab), ("internal/strconv.uint64pow10", Rows.laid_internal_strconv_uint64pow10), ("unicode/utf8.acceptRanges", Rows.laid_unicode_utf8_acceptRanges), ("unicode/utf8.first", Rows.laid_unicode_utf8_first)]
set_option maxRecDepth 100000 in
theorem accept_eq : (Rows.laid_unicode_utf8_acceptRanges : DataW Unit) = acceptData := by kernel_rfl
set_option maxRecDepth 100000 in
theorem pow_eq : (Rows.laid_internal_strconv_uint64pow10 : DataW Unit) = tabData .u64 pow10Tab := by kernel_rfl
theorem u8types : U8Types Tryd.prog Tryd.renB := { Tryd.more196 with }
theorem env_of (l : List (String × DataW Unit)) {W : World} (h : laidMet Tryd.prog l W) (h1 : ("unicode/utf8.first", Rows.laid_unicode_utf8_first) ∈ l) (h2 : ("unicode/utf8.acceptRanges", (Rows.laid_unicode_utf8_acceptRanges : DataW Unit)) ∈ l)
    (h3 : ("internal/strconv.uint64pow10", (Rows.laid_internal_strconv_uint64pow10 : DataW Unit)) ∈ l) : Env W := by
  refine ⟨?_, ?_⟩
  · exact utf8Tabs_of_readsT u8types ⟨by kernel_rfl, by kernel_rfl, by kernel_rfl, by kernel_rfl, by kernel_rfl, by kernel_rfl, by kernel_rfl⟩ (Pinned.utf8First_eq ▸ Lib.laidMet.reads h h1) (accept_eq ▸ Lib.laidMet.reads h h2)
  · obtain ⟨g, t, cs, fuel, p, hg, hty, hv, hd⟩ := Lib.laidMet.reads h h3
    rw [pow_eq] at hd
    have eg : g = 2 := Option.some.inj (hg.symm.trans (show Tryd.prog.globalNamed "internal/strconv.uint64pow10" = some 2 by kernel_rfl))
    subst eg
    have et : t = 133 := Option.some.inj (hty.symm.trans (show (Tryd.prog.globals[2]?).map (·.type) = some 133 by kernel_rfl))
    subst et
    unfold Pow TabIs
    rw [hv, ← cells_of_tab (P := Tryd.prog) (t := 133) (e := 109) (n := 20) Tryd.underlying133 Tryd.underlying109 (by kernel_rfl) (by kernel_rfl) hd]
theorem env_of_laid {W : World} (h : laidMetH Tryd.prog tabsLaid W) : Env W := by
  rw [MakeChecks.laidMetH_plain _ _ _ (by kernel_rfl)] at h
  exact env_of _ h (by simp [tabsLaid]) (by simp [tabsLaid]) (by simp [tabsLaid])
theorem start_met (os : Os) (args : Array Value) : laidMetH Tryd.prog tabsLaid ((World.laidAll Tryd.prog os tabsLaid).forCall (fun _ _ => 0) ⟨#[], args, []⟩).memory := by
  rw [MakeChecks.laidMetH_plain _ _ _ (by kernel_rfl)]; exact laidMet_laidAll _ (by kernel_rfl) (by kernel_rfl)

set_option maxRecDepth 1000000 in
/-- A value that came in, opened; and shut again. -/
theorem open_val {H : Type} {enc : TypeId × Value → H} {w : World} {base : Nat} {sp : Nat → Bool} {held : Bool} {r : Reach} {b0 : Nat} {v : Value} {d : DataW H} {p : List MemPlace}
    (hv : Value.okWide Tryd.prog w r b0 23 v) (h : DataW.Trod enc Tryd.prog w base sp held 23 v d p) :
    ∃ (K n : Int) (s : ByteArray), v = V3 K n s ∧ p = [] ∧ (∀ w' sp', DataW.Trod enc Tryd.prog w' base sp' held 23 (V3 K n s) d []) ∧ -9223372036854775808 ≤ K ∧ K ≤ 9223372036854775807 ∧ -9223372036854775808 ≤ n ∧ n ≤ 9223372036854775807 ∧ s.size ≤ maxLen ∧ d = .agg [.lit (.int .i64 K), .lit (.int .i64 n), .lit (.string s.data.toList)] := by
  obtain ⟨c0, c1, c2, y0, y1, y2, m, rfl, rfl, rfl, hy0, hy1, hy2⟩ := Go.Joins.open_agg3 Tryd.underlying23 (by kernel_rfl) (by kernel_rfl) hv h
  obtain ⟨K, e0, rfl, w0⟩ := DataW.trod_int Tryd.underlying3 hy0
  obtain ⟨n, e1, rfl, w1⟩ := DataW.trod_int Tryd.underlying2 hy1
  obtain ⟨s, e2, rfl, w2⟩ := DataW.trod_string Tryd.underlying9 hy2
  simp at e0 e1 e2
  subst e0 e1 e2
  have b0 := bounds_i64 w0
  have b1 := bounds_i64 w1
  refine ⟨K, n, s, rfl, rfl, fun w' sp' => ?_, b0.1, b0.2, b1.1, b1.2, w2, rfl⟩
  exact Go.Joins.shut_agg3 (y0 := (.lit (.int .i64 K), [])) (y1 := (.lit (.int .i64 n), [])) (y2 := (.lit (.string s.data.toList), [])) Tryd.underlying23 (by kernel_rfl) (by kernel_rfl)
    ⟨1, by simp [DataW.trod, Tryd.underlying3, w0]⟩ ⟨1, by simp [DataW.trod, Tryd.underlying2, w1]⟩ ⟨1, by simp [DataW.trod, Tryd.underlying9, w2]⟩
end Go.Proofs.YtfcigknalnmhcaaDoor
