/- The contracts of value.meant and value.Read, of any text. -/
import Derived.Test.YtfcigknalnmhcaaDoorVEsc
import Derived.Test.YtfcigknalnmhcaaDoorVQuote
import Derived.Test.YtfcigknalnmhcaaDoorVOnly
import Derived.Test.YtfcigknalnmhcaaDoorVMeantB
namespace Go.Proofs.YtfcigknalnmhcaaDoor
/- The contract of value.Unquoted: whatever the text, some text that is no longer; of a quoted text, what it quotes. -/
section
open Go.RowKit Go.Lib

/-- What is told of a text, if it quotes anything. -/
def Unq (l : List UInt8) (T : ByteArray) : Prop := T.size ≤ l.length ∧ ∀ L0 : List It, (∀ x ∈ L0, x.ok) → l = 34 :: (srcs L0 ++ [34]) → T.data.toList = tgts L0
def SomeUnq (l : List UInt8) (e : Ending) : Prop := ∃ T b, ∃ n : Int, e = .returned (.tuple #[.string T, .int .i64 n, .bool b]) ∧ Unq l T
def URel (l : List UInt8) (B : Nat) (w wr : World) (i : Nat) (acc : List UInt8) : Prop :=
  Lib.IsBuilderF 96 5 B B (Lib.byteCells acc) wr ∧ Below B w wr ∧ UIn l i acc ∧ acc.length ≤ i ∧ i ≤ l.length
set_option maxHeartbeats 4000000 in
set_option maxRecDepth 1000000 in
theorem unquoted_any (s : ByteArray) (w : World) (hs : s.size ≤ 1099511627776) :
    Calls Tryd.prog 86 #[.string s] w fun e w' => SomeUnq s.data.toList e ∧ Below w.heap.size w w' := by
  obtain ⟨l, hl⟩ : ∃ l, s.data.toList = l := ⟨_, rfl⟩
  have hsz : l.length = s.size := by rw [← hl]; exact size_list s
  have hg : ∀ (i : Nat) (h : i < s.size), l[i]? = some s[i] := fun i h => by
    rw [← hl, List.getElem?_eq_getElem (by rw [size_list]; exact h)]; rfl
  have htl : ∀ i, (s.extract i s.size).data.toList = l.drop i := fun i => by rw [tailList, hl]
  have c1 := fun w => hasPrefix_any s ⟨#[34]⟩ w
  simp only [hl] at c1
  rw [hl]
  have HG := Lib.hid hg
  have HSZ := Lib.hid hsz
  have HTL := Lib.hid htl
  clear hl hg hsz htl
  cases h1 : hasPrefix l [34] with
  | false =>
    have hU : Unq l ⟨#[]⟩ := ⟨Nat.zero_le _, fun L0 _ e => by rw [e] at h1; simp [hasPrefix, List.isPrefixOf] at h1⟩
    have HU := Lib.hid hU
    simp only [h1] at c1
    clear h1 hU
    go_enter Tryd.func86, Tryd.ntmps86
    go_wp2_with fail
    refine (c1 _).mono ?_
    rintro e w1 ⟨rfl, rfl⟩
    go_wp2_with fail
    exact bodyPost_ret (v := .tuple #[.string ⟨#[]⟩, .int .i64 0, .bool false]) (by simp [results, Tryd.results86, go_sem]) rfl ⟨⟨_, _, _, rfl, HU.out⟩, Below.refl _ _⟩
  | true =>
    have hF := Lib.IsBuilderF.of (Lib.fresh_isBuilder 96 5 w)
    have hpos : 0 < l.length := by
      cases l with
      | nil => simp [hasPrefix, List.isPrefixOf] at h1
      | cons a r => simp
    simp only [h1] at c1
    have h0 : URel l w.heap.size w (w.alloc (.cells #[.pointer none, .slice none 0 0] 96)) 1 [] := ⟨hF, below_alloc w _, UIn.start l, by simp, hpos⟩
    have H0 := Lib.hid h0
    clear h0 hF h1
    go_enter Tryd.func86, Tryd.ntmps86
    go_wp2_with fail
    refine (c1 _).mono ?_
    rintro e w1 ⟨rfl, rfl⟩
    go_wp2_with fail
    go_loopw [6] (fun iv wr => ∃ i acc, URel l w1.heap.size w1 wr i acc ∧ iv = .int .i64 (i : Int)) (fun iv _ => s.size - (Go.RowKit.intOf iv).toNat)
    case atStart => exact ⟨1, [], H0.out, rfl⟩
    case round =>
      obtain ⟨i, acc, hR, rfl⟩ := hrel
      obtain ⟨hI, hbw, hU, hal, hil⟩ := hR
      rw [HSZ.out] at hil
      have HU := Lib.hid hU
      have hsz1 := hbw.size
      clear H0 hU c1
      by_cases hlt : i < s.size
      · have hc := HG.out i hlt
        have hltz : (i : Int) < (s.size : Int) := by omega
        by_cases h34 : s[i].toNat = 34
        · have t1 : ((s[i].toNat : Int) == 34) = true := by rw [h34]; rfl
          have hend : Unq l ⟨acc.toArray⟩ := ⟨by rw [HSZ.out]; show acc.toArray.size ≤ _; rw [List.size_toArray]; omega, fun L0 hok e => by
            rw [HU.out.end (by rw [hc]; congr 1; exact UInt8.toNat_inj.1 h34) L0 hok e]⟩
          have HEND := Lib.hid hend
          have cS := fun w h hb => bString w1.heap.size w1.heap.size acc w h hb
          clear hend hc h34
          go_wp2_with fail
          refine (cS _ hI hsz1).mono ?_
          rintro e w3 ⟨rfl, -, hb3, -⟩
          go_wp2_with fail
          exact bodyPost_ret (v := .tuple #[.string ⟨acc.toArray⟩, .int .i64 ((i : Int) + 1), .bool true]) (by simp [results, Tryd.results86, go_sem]) rfl ⟨⟨_, _, _, rfl, HEND.out⟩, hbw.trans hb3⟩
        · have t1 : ((s[i].toNat : Int) == 34) = false := beq_eq_false_iff_ne.2 (by omega)
          by_cases h92 : s[i].toNat = 92
          · have t2 : ((s[i].toNat : Int) == 92) = true := by rw [h92]; rfl
            have hc92 : l[i]? = some 92 := by rw [hc]; congr 1; exact UInt8.toNat_inj.1 h92
            have htd := HTL.out i
            have hxz : (s.extract i s.size).size ≤ 1099511627776 := by
              rw [← size_list, htd, List.length_drop, HSZ.out]; omega
            have cE := fun w => escaped_any (s.extract i s.size) w hxz
            rw [htd] at cE
            have hel := HSZ.out
            have HC := Lib.hid hc92
            have HEL := Lib.hid hel
            clear hc h34 h92 htd hxz hc92 hel
            go_wp2_with fail
            refine (cE _).mono ?_
            rintro e w3 ⟨⟨r, n, rfl, hE⟩, rfl⟩
            have HE := Lib.hid hE
            obtain ⟨r0, r1, hn1, hn6, hnl, -, -⟩ := hE
            by_cases hn : n = 0
            · subst hn
              have hend : Unq l ⟨#[]⟩ := ⟨Nat.zero_le _, fun L0 hok e => absurd e (HU.out.bad HC.out HE.out L0 hok)⟩
              have HEND := Lib.hid hend
              clear hend cE
              go_wp2_with fail
              exact bodyPost_ret (v := .tuple #[.string ⟨#[]⟩, .int .i64 0, .bool false]) (by simp [results, Tryd.results86, go_sem]) rfl ⟨⟨_, _, _, rfl, HEND.out⟩, hbw⟩
            · have hnl := hnl.resolve_left hn
              rw [List.length_drop, HEL.out] at hn1
              have hn0 : ((n : Int) == 0) = false := beq_eq_false_iff_ne.2 (by omega)
              have cR := fun w h hb => bWriteRune w1.heap.size w1.heap.size (Lib.byteCells acc) r (by omega) (by omega) w h (by rw [Lib.byteCells_length]; omega) hb
              have HNL := Lib.hid hnl
              clear cE hnl
              go_wp2_with fail
              refine (cR _ hI hsz1).mono ?_
              rintro e w4 ⟨rfl, h4, hb4, -⟩
              rw [← Lib.byteCells_encodeRune, ← Lib.byteCells_append] at h4
              clear cR
              go_wp2
              go_roundw
              case rel =>
                refine ⟨i + n, acc ++ Lib.encodeRune r, ⟨Or.inr h4, hbw.trans hb4, HU.out.esc HC.out HE.out, ?_, ?_⟩, by go_num⟩
                · rw [List.length_append]; have := HNL.out; omega
                · rw [HSZ.out]; omega
              case measure => simp only [Go.RowKit.intOf]; omega
          · have t2 : ((s[i].toNat : Int) == 92) = false := beq_eq_false_iff_ne.2 (by omega)
            have hby := HU.out.byte hc (fun e => h34 (by rw [e]; rfl)) (fun e => h92 (by rw [e]; rfl))
            have HBY := Lib.hid hby
            have cW := fun w h hb => bWriteByte w1.heap.size w1.heap.size (Lib.byteCells acc) (s[i].toNat : Int) w h (by rw [Lib.byteCells_length]; omega) hb
            clear hby hc h34 h92
            go_wp2_with fail
            refine (cW _ hI hsz1).mono ?_
            rintro e w4 ⟨rfl, h4, hb4, -⟩
            rw [byteCells_snoc] at h4
            clear cW
            go_wp2
            go_roundw
            case rel =>
              refine ⟨i + 1, acc ++ [s[i]], ⟨Or.inr h4, hbw.trans hb4, HBY.out, ?_, ?_⟩, by go_num⟩
              · rw [List.length_append]; simp; omega
              · rw [HSZ.out]; omega
            case measure => simp only [Go.RowKit.intOf]; omega
      · have hend : Unq l ⟨#[]⟩ := ⟨Nat.zero_le _, fun L0 hok e => absurd e (HU.out.none (by rw [HSZ.out]; omega) L0 hok)⟩
        have HEND := Lib.hid hend
        have hltz : ¬ (i : Int) < (s.size : Int) := by omega
        clear hend
        go_wp2_with fail
        exact bodyPost_ret (v := .tuple #[.string ⟨#[]⟩, .int .i64 0, .bool false]) (by simp [results, Tryd.results86, go_sem]) rfl ⟨⟨_, _, _, rfl, HEND.out⟩, hbw⟩
end
section
open Go.RowKit Go.Lib

set_option maxHeartbeats 2000000 in
set_option maxRecDepth 100000 in
theorem meant_quote (t : ByteArray) (w : World) (hs : t.size ≤ 1099511627776) (r : List UInt8) (h : t.data.toList = 34 :: r) :
    Calls Tryd.prog 57 #[.string t] w fun e w' => (∃ T, e = .returned (V3 3 0 T) ∧ Unq (34 :: r) T) ∧ Below w.heap.size w w' := by
  have e1 := not_list (t := t) (l := [45]) (by rw [h]; intro e; injection e with e; exact absurd e (by decide))
  have e2 := not_list (t := t) (l := [116, 114, 117, 101]) (by rw [h]; intro e; injection e with e; exact absurd e (by decide))
  have e3 := not_list (t := t) (l := [102, 97, 108, 115, 101]) (by rw [h]; intro e; injection e with e; exact absurd e (by decide))
  have hb0 := below_alloc w (.cells #[.int .i64 0, .int .i64 0, .string ⟨#[]⟩] 23)
  have r0 := three_new w (.int .i64 0) (.int .i64 0) (.string ⟨#[]⟩) 23
  have c4 := fun w => hasPrefix_any t ⟨#[34]⟩ w
  have x4 : hasPrefix t.data.toList (⟨#[34]⟩ : ByteArray).data.toList = true := by rw [h]; rfl
  simp only [x4] at c4
  have cU := fun w => unquoted_any t w hs
  rw [h] at cU
  clear h x4
  go_enter Tryd.func57, Tryd.ntmps57
  go_wp2_with fail
  refine (c4 _).mono ?_
  rintro e w1 ⟨rfl, rfl⟩
  go_wp2_with fail
  refine (cU _).mono ?_
  rintro e w3 ⟨⟨T, b, n, rfl, hU⟩, hb3⟩
  obtain ⟨-, z0, z1, z2, f0, f1, f2⟩ := r0.later hb3
  have hbw := below_to hb0 hb3
  have HU := Lib.hid hU
  clear c4 cU r0 hb0 hb3 e1 e2 e3 hU
  go_wp2
  exact bodyPost_ret (v := V3 3 0 T) (by simp [results, Tryd.results57, go_sem, z0, z1, z2]) rfl ⟨⟨T, rfl, HU.out⟩, ((hbw.setCell (p := ⟨w.heap.size, 0, none⟩) (Nat.le_refl _) _).setCell (p := ⟨w.heap.size, 1, none⟩) (Nat.le_refl _) _).setCell (p := ⟨w.heap.size, 2, none⟩) (Nat.le_refl _) _⟩
theorem prefix_head {l : List UInt8} {c : UInt8} (h : hasPrefix l [c] = true) : ∃ r, l = c :: r := by
  cases l with
  | nil => simp [hasPrefix, List.isPrefixOf] at h
  | cons x r =>
    simp only [hasPrefix, List.isPrefixOf, Bool.and_eq_true, beq_iff_eq] at h
    exact ⟨r, by rw [h.1]⟩
/-- A value that a text may be the text of. -/
def MayBe (l : List UInt8) (K n : Int) (u : ByteArray) : Prop := Only l K n u.data.toList ∧ u.size ≤ l.length ∧ -9223372036854775808 ≤ n ∧ n ≤ 9223372036854775807
theorem meant_any (t : ByteArray) (w : World) (hs : t.size ≤ 1099511627776) (hE : Errs w) :
    Calls Tryd.prog 57 #[.string t] w fun e w' => (∃ K n u, e = .returned (V3 K n u) ∧ MayBe t.data.toList K n u) ∧ Below w.heap.size w w' := by
  have hz : (⟨#[]⟩ : ByteArray).size ≤ t.data.toList.length := Nat.zero_le _
  by_cases h1 : t.data.toList = [45]
  · refine (meant_dash t w h1).mono ?_
    rintro e w' ⟨rfl, hb⟩
    exact ⟨⟨0, 0, _, rfl, by rw [h1]; exact shown_dash.only, hz, by decide, by decide⟩, hb⟩
  by_cases h2 : t.data.toList = [116, 114, 117, 101]
  · refine (meant_truth t w true h2).mono ?_
    rintro e w' ⟨rfl, hb⟩
    exact ⟨⟨2, _, _, rfl, by rw [h2]; exact (shown_truth true).only, hz, by decide, by decide⟩, hb⟩
  by_cases h3 : t.data.toList = [102, 97, 108, 115, 101]
  · refine (meant_truth t w false h3).mono ?_
    rintro e w' ⟨rfl, hb⟩
    exact ⟨⟨2, _, _, rfl, by rw [h3]; exact (shown_truth false).only, hz, by decide, by decide⟩, hb⟩
  cases h4 : hasPrefix t.data.toList [34] with
  | true =>
    obtain ⟨r, hr⟩ := prefix_head h4
    refine (meant_quote t w hs r hr).mono ?_
    rintro e w' ⟨⟨T, rfl, hU⟩, hb⟩
    rw [hr]
    exact ⟨⟨3, 0, T, rfl, only_quote hU.2, hU.1, by decide, by decide⟩, hb⟩
  | false =>
    cases h5 : hasPrefix t.data.toList [35] with
    | true =>
      obtain ⟨r, hr⟩ := prefix_head h5
      refine (meant_hash t w hs hE r hr).mono ?_
      rintro e w' ⟨⟨m, rfl, hN⟩, hb⟩
      rw [hr] at hz ⊢
      exact ⟨⟨4, m, _, rfl, only_hash (fun z h1 h2 e => hN.2.2 z (by omega) (by omega) e), hz, hN.1, hN.2.1⟩, hb⟩
    | false =>
      refine (meant_num t w hs hE h1 h2 h3 h4 h5).mono ?_
      rintro e w' ⟨⟨m, rfl, hN⟩, hb⟩
      exact ⟨⟨1, m, _, rfl, only_num h1 h2 h3 h4 h5 hN.2.2, hz, hN.1, hN.2.1⟩, hb⟩
theorem read_any (t : ByteArray) (w : World) (hs : t.size ≤ 1099511627776) (hE : Env7 w) :
    Calls Tryd.prog 29 #[.string t] w fun e w' => (∃ v, e = .returned v ∧ ReadEnd t.data.toList v) ∧ Below w.heap.size w w' := by
  refine (read_by t w (fun K n u => MayBe t.data.toList K n u) ?_ hE.env ?_).mono ?_
  · rintro K n u ⟨_, h1, h2, h3⟩
    rw [size_list] at h1
    exact ⟨by omega, h2, h3⟩
  · intro w' hb
    exact (meant_any t w' hs (hE.errs.later hb))
  · rintro e w' ⟨⟨K, n, u, ⟨h1, _, h2, h3⟩, rfl⟩, hb⟩
    exact ⟨⟨_, rfl, readEnd_of h1 h2 h3⟩, hb⟩
end
end Go.Proofs.YtfcigknalnmhcaaDoor
