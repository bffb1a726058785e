/- The contracts of value.meant and value.Read, of any text. -/
import Derived.Test.YtfcigknalnmhcaaDoorVOnly
import Derived.Test.YtfcigknalnmhcaaDoorVMeantB
import Derived.Test.YtfcigknalnmhcaaDoorVUnquoted
namespace Go.Proofs.YtfcigknalnmhcaaDoor
open Go.RowKit Go.Lib

set_option maxHeartbeats 2000000 in
set_option maxRecDepth 100000 in
theorem meant_quote (t : ByteArray) (w : World) (hs : t.size ≤ 1099511627776) (r : List UInt8) (h : t.data.toList = 34 :: r) :
    Calls Tryd.prog 57 #[.string t] w fun e w' => (∃ T, e = .returned (V3 3 0 T) ∧ Unq (34 :: r) T) ∧ Below w.heap.size w w' := by
  have e1 := not_list (t := t) (l := [45]) (by rw [h]; intro e; injection e with e; exact absurd e (by decide))
  have e2 := not_list (t := t) (l := [116, 114, 117, 101]) (by rw [h]; intro e; injection e with e; exact absurd e (by decide))
  have e3 := not_list (t := t) (l := [102, 97, 108, 115, 101]) (by rw [h]; intro e; injection e with e; exact absurd e (by decide))
  have hb0 := below_alloc w (.cells #[.int .i64 0, .int .i64 0, .string ⟨#[]⟩] 23)
  have r0 := three_new w (.int .i64 0) (.int .i64 0) (.string ⟨#[]⟩) 23
  have c4 := fun w => hasPrefix_any t ⟨#[34]⟩ w
  have x4 : hasPrefix t.data.toList (⟨#[34]⟩ : ByteArray).data.toList = true := by rw [h]; rfl
  simp only [x4] at c4
  have cU := fun w => unquoted_any t w hs
  rw [h] at cU
  clear h x4
  go_enter Tryd.func57, Tryd.ntmps57
  go_wp2_with fail
  refine (c4 _).mono ?_
  rintro e w1 ⟨rfl, rfl⟩
  go_wp2_with fail
  refine (cU _).mono ?_
  rintro e w3 ⟨⟨T, b, n, rfl, hU⟩, hb3⟩
  obtain ⟨-, z0, z1, z2, f0, f1, f2⟩ := r0.later hb3
  have hbw := below_to hb0 hb3
  have HU := Lib.hid hU
  clear c4 cU r0 hb0 hb3 e1 e2 e3 hU
  go_wp2
  exact bodyPost_ret (v := V3 3 0 T) (by simp [results, Tryd.results57, go_sem, z0, z1, z2]) rfl ⟨⟨T, rfl, HU.out⟩, ((hbw.setCell (p := ⟨w.heap.size, 0, none⟩) (Nat.le_refl _) _).setCell (p := ⟨w.heap.size, 1, none⟩) (Nat.le_refl _) _).setCell (p := ⟨w.heap.size, 2, none⟩) (Nat.le_refl _) _⟩
theorem prefix_head {l : List UInt8} {c : UInt8} (h : hasPrefix l [c] = true) : ∃ r, l = c :: r := by
  cases l with
  | nil => simp [hasPrefix, List.isPrefixOf] at h
  | cons x r =>
    simp only [hasPrefix, List.isPrefixOf, Bool.and_eq_true, beq_iff_eq] at h
    exact ⟨r, by rw [h.1]⟩
/-- A value that a text may be the text of. -/
def MayBe (l : List UInt8) (K n : Int) (u : ByteArray) : Prop := Only l K n u.data.toList ∧ u.size ≤ l.length ∧ -9223372036854775808 ≤ n ∧ n ≤ 9223372036854775807
theorem meant_any (t : ByteArray) (w : World) (hs : t.size ≤ 1099511627776) (hE : Errs w) :
    Calls Tryd.prog 57 #[.string t] w fun e w' => (∃ K n u, e = .returned (V3 K n u) ∧ MayBe t.data.toList K n u) ∧ Below w.heap.size w w' := by
  have hz : (⟨#[]⟩ : ByteArray).size ≤ t.data.toList.length := Nat.zero_le _
  by_cases h1 : t.data.toList = [45]
  · refine (meant_dash t w h1).mono ?_
    rintro e w' ⟨rfl, hb⟩
    exact ⟨⟨0, 0, _, rfl, by rw [h1]; exact shown_dash.only, hz, by decide, by decide⟩, hb⟩
  by_cases h2 : t.data.toList = [116, 114, 117, 101]
  · refine (meant_truth t w true h2).mono ?_
    rintro e w' ⟨rfl, hb⟩
    exact ⟨⟨2, _, _, rfl, by rw [h2]; exact (shown_truth true).only, hz, by decide, by decide⟩, hb⟩
  by_cases h3 : t.data.toList = [102, 97, 108, 115, 101]
  · refine (meant_truth t w false h3).mono ?_
    rintro e w' ⟨rfl, hb⟩
    exact ⟨⟨2, _, _, rfl, by rw [h3]; exact (shown_truth false).only, hz, by decide, by decide⟩, hb⟩
  cases h4 : hasPrefix t.data.toList [34] with
  | true =>
    obtain ⟨r, hr⟩ := prefix_head h4
    refine (meant_quote t w hs r hr).mono ?_
    rintro e w' ⟨⟨T, rfl, hU⟩, hb⟩
    rw [hr]
    exact ⟨⟨3, 0, T, rfl, only_quote hU.2, hU.1, by decide, by decide⟩, hb⟩
  | false =>
    cases h5 : hasPrefix t.data.toList [35] with
    | true =>
      obtain ⟨r, hr⟩ := prefix_head h5
      refine (meant_hash t w hs hE r hr).mono ?_
      rintro e w' ⟨⟨m, rfl, hN⟩, hb⟩
      rw [hr] at hz ⊢
      exact ⟨⟨4, m, _, rfl, only_hash (fun z h1 h2 e => hN.2.2 z (by omega) (by omega) e), hz, hN.1, hN.2.1⟩, hb⟩
    | false =>
      refine (meant_num t w hs hE h1 h2 h3 h4 h5).mono ?_
      rintro e w' ⟨⟨m, rfl, hN⟩, hb⟩
      exact ⟨⟨1, m, _, rfl, only_num h1 h2 h3 h4 h5 hN.2.2, hz, hN.1, hN.2.1⟩, hb⟩
theorem read_any (t : ByteArray) (w : World) (hs : t.size ≤ 1099511627776) (hE : Env7 w) :
    Calls Tryd.prog 29 #[.string t] w fun e w' => (∃ v, e = .returned v ∧ ReadEnd t.data.toList v) ∧ Below w.heap.size w w' := by
  refine (read_by t w (fun K n u => MayBe t.data.toList K n u) ?_ hE.env ?_).mono ?_
  · rintro K n u ⟨_, h1, h2, h3⟩
    rw [size_list] at h1
    exact ⟨by omega, h2, h3⟩
  · intro w' hb
    exact (meant_any t w' hs (hE.errs.later hb))
  · rintro e w' ⟨⟨K, n, u, ⟨h1, _, h2, h3⟩, rfl⟩, hb⟩
    exact ⟨⟨_, rfl, readEnd_of h1 h2 h3⟩, hb⟩
end Go.Proofs.YtfcigknalnmhcaaDoor
