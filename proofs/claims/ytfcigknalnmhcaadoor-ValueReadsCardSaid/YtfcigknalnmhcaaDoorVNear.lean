/- What the three laws that read numbers need: strconv's two errors as the row lays them; near: whatever the text, some number; of a number's own digits, that number. -/
import Derived.Test.YtfcigknalnmhcaaDoorVFrame
import Derived.Shelf.Strconv.ErrVarParseInt
namespace Go.Proofs.YtfcigknalnmhcaaDoor
open Go.ChangeShapes Go.WideShapes Go.ChangeAt Go.RowKit Go.Lib Go.Shelf

/-- The two errors are there. -/
structure Errs (w : World) : Prop where
  syn : ∃ t p, w.cell? ⟨5, 0, none⟩ = some (.iface t p)
  rng : ∃ t p, w.cell? ⟨6, 0, none⟩ = some (.iface t p)
structure Env7 (w : World) : Prop where
  env : Env w
  errs : Errs w
theorem Errs.later {w w' : World} (h : Errs w) (hb : Below w.heap.size w w') : Errs w' := by
  obtain ⟨⟨t, p, h1⟩, ⟨u, q, h2⟩⟩ := h
  exact ⟨⟨t, p, (hb.cell (p := ⟨5, 0, none⟩) (lt_of_cell h1)).trans h1⟩, ⟨u, q, (hb.cell (p := ⟨6, 0, none⟩) (lt_of_cell h2)).trans h2⟩⟩
theorem Env7.later {w w' : World} (h : Env7 w) (hb : Below w.heap.size w w') : Env7 w' := ⟨h.env.later hb, h.errs.later hb⟩

def tabsLaid7 : List (String × DataW Unit) := [("math/bits.deBruijn32tab", Rows.laid_math_bits_deBruijn32tab), ("math/bits.deBruijn64tab", Rows.laid_math_bits_deBruijn64tab), ("internal/strconv.uint64pow10", Rows.laid_internal_strconv_uint64pow10), ("unicode/utf8.acceptRanges", Rows.laid_unicode_utf8_acceptRanges), ("strconv.ErrRange", Rows.laid_strconv_ErrRange), ("strconv.ErrSyntax", Rows.laid_strconv_ErrSyntax), ("unicode/utf8.first", Rows.laid_unicode_utf8_first)]

theorem Errs.of (l : List (String × DataW Unit)) {W : World} (h : laidMet Tryd.prog (("strconv.ErrRange", Rows.laid_strconv_ErrRange) :: ("strconv.ErrSyntax", Rows.laid_strconv_ErrSyntax) :: l) W) : Errs W := by
  have hrow : ∀ u, Tryd.prog.typeName? 3 u = some "*errors.errorString" → u = 155 := fun u h => typeName_ptr_named (nm := "errors.errorString") (by rw [show "*" ++ "errors.errorString" = "*errors.errorString" by decide]; kernel_rfl) (by kernel_rfl) (by decide) u (by rw [show "*" ++ "errors.errorString" = "*errors.errorString" by decide]; exact h)
  have gR : Tryd.prog.globalNamed "strconv.ErrRange" = some 6 := by kernel_rfl
  have gS : Tryd.prog.globalNamed "strconv.ErrSyntax" = some 5 := by kernel_rfl
  obtain ⟨a0, s0, hv0, -, -, -⟩ := laid_sentinel h gR (ti := 98) (by kernel_rfl) Tryd.underlying98 hrow Tryd.underlying155 Tryd.underlying157 rfl rfl Tryd.underlying9 (by kernel_rfl) (by kernel_rfl)
  obtain ⟨a1, s1, hv1, -, -, -⟩ := laid_sentinel h.tail gS (ti := 98) (by kernel_rfl) Tryd.underlying98 hrow Tryd.underlying155 Tryd.underlying157 rfl rfl Tryd.underlying9 (by kernel_rfl) (by kernel_rfl)
  exact ⟨⟨_, _, by have h0 := World.var?_cell gS hv1 0; simpa using h0⟩, ⟨_, _, by have h0 := World.var?_cell gR hv0 0; simpa using h0⟩⟩
theorem env7_of_laid {W : World} (h : laidMetH Tryd.prog tabsLaid7 W) : Env7 W := by
  rw [MakeChecks.laidMetH_plain _ _ _ (by kernel_rfl)] at h
  refine ⟨env_of _ h (by simp [tabsLaid7]) (by simp [tabsLaid7]) (by simp [tabsLaid7]), ?_⟩
  exact Errs.of _ (laidMet.tail (laidMet.tail (laidMet.tail (laidMet.tail h))))
theorem start_met7 (os : Os) (args : Array Value) : laidMetH Tryd.prog tabsLaid7 ((World.laidAll Tryd.prog os tabsLaid7).forCall (fun _ _ => 0) ⟨#[], args, []⟩).memory := by
  rw [MakeChecks.laidMetH_plain _ _ _ (by kernel_rfl)]; exact laidMet_laidAll _ (by kernel_rfl) (by kernel_rfl)

theorem parse_lo {l : List UInt8} {v : Int} (h : parseIntB 64 l = .ok v) : -9223372036854775808 ≤ v ∧ v ≤ 9223372036854775807 := by
  cases l with
  | nil => simp [parseIntB] at h
  | cons c r =>
    simp only [parseIntB] at h
    split at h
    · cases h
    · cases h
    · split at h
      · cases h
      · split at h
        · cases h
        · rename_i h1 h2
          injection h with h
          by_cases hn : c.toNat = 45
          · rw [if_pos hn] at h; omega
          · rw [if_neg hn] at h; omega
theorem parse_any (t : ByteArray) (w : World) (hs : t.size ≤ 1099511627776) (hE : Errs w) :
    Calls Tryd.prog 104 #[.string t, .int .i64 10, .int .i64 64] w fun e w' => ((∃ v, parseIntB 64 t.data.toList = .ok v ∧ e = .returned (.tuple #[.int .i64 v, .nilIface])) ∨ (∃ v u a, (∀ z, parseIntB 64 t.data.toList ≠ .ok z) ∧ e = .returned (.tuple #[.int .i64 v, .iface u (.pointer (some a))]))) ∧ Below w.heap.size w w' := by
  obtain ⟨⟨u, p, h1⟩, ⟨q, r, h2⟩⟩ := hE
  cases hp : parseIntB 64 t.data.toList with
  | ok v =>
    refine (Any.strconv_ParseInt_10_at64_ok Tryd.more174 t (by omega) v hp w).mono ?_
    rintro e w' ⟨rfl, h | ⟨x, h⟩⟩
    · exact ⟨.inl ⟨v, rfl, rfl⟩, h ▸ Below.refl _ _⟩
    · exact ⟨.inl ⟨v, rfl, rfl⟩, by rw [h]; exact Go.Joins.below_bytesWorld _ _ _ _ (Nat.le_refl _)⟩
  | range =>
    refine (Any.strconv_ParseInt_10_at64_range Tryd.more174 t (by omega) hp _ w h2 (Or.inr ⟨_, _, rfl⟩)).mono ?_
    rintro e w' ⟨N, rfl, -, -, hb⟩
    exact ⟨.inr ⟨_, _, _, (fun z h => by cases h), rfl⟩, hb⟩
  | _ =>
    refine (Any.strconv_ParseInt_10_at64_syntax Tryd.more174 t (by omega) hp _ w h1 (Or.inr ⟨_, _, rfl⟩)).mono ?_
    rintro e w' ⟨N, rfl, -, -, hb⟩
    exact ⟨.inr ⟨_, _, _, (fun z h => by cases h), rfl⟩, hb⟩
/-- A number that goes with a text: its own, where it is a number's digits. -/
def Near (l : List UInt8) (m : Int) : Prop := -9223372036854775808 ≤ m ∧ m ≤ 9223372036854775807 ∧ ∀ z, -9223372036854775808 ≤ z → z ≤ 9223372036854775807 → l = itoa z → m = z
set_option maxHeartbeats 1000000 in
theorem near_any (t : ByteArray) (w : World) (hs : t.size ≤ 1099511627776) (hE : Errs w) :
    Calls Tryd.prog 87 #[.string t] w fun e w' => (∃ m, e = .returned (.int .i64 m) ∧ Near t.data.toList m) ∧ Below w.heap.size w w' := by
  have cP := parse_any t w hs hE
  have hok : ∀ v, parseIntB 64 t.data.toList = .ok v → Near t.data.toList v := fun v h => ⟨(parse_lo h).1, (parse_lo h).2, fun z z0 z1 e => by rw [e, parse_itoa z z0 z1] at h; cases h; rfl⟩
  have hno : (∀ z, parseIntB 64 t.data.toList ≠ .ok z) → Near t.data.toList 0 := fun h => ⟨by decide, by decide, fun z z0 z1 e => absurd (by rw [e]; exact parse_itoa z z0 z1) (h z)⟩
  go_enter Tryd.func87, Tryd.ntmps87
  go_wp2_with fail
  refine cP.mono ?_
  rintro e w1 ⟨⟨v, hp, rfl⟩ | ⟨v, u, a, hp, rfl⟩, hb1⟩
  · have hN := hok v hp
    clear hok hno hp cP
    go_wp2
    go_ret
    exact ⟨⟨v, rfl, hN⟩, hb1⟩
  · have hN := hno hp
    clear hok hno hp cP
    go_wp2
    go_ret
    exact ⟨⟨0, rfl, hN⟩, hb1⟩
end Go.Proofs.YtfcigknalnmhcaaDoor
