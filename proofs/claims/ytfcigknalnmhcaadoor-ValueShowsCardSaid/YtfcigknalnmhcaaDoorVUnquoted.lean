/- The contract of value.Unquoted: whatever the text, some text that is no longer; of a quoted text, what it quotes. -/
import Derived.Test.YtfcigknalnmhcaaDoorVEsc
import Derived.Test.YtfcigknalnmhcaaDoorVQuote
namespace Go.Proofs.YtfcigknalnmhcaaDoor
open Go.RowKit Go.Lib

/-- What is told of a text, if it quotes anything. -/
def Unq (l : List UInt8) (T : ByteArray) : Prop := T.size ≤ l.length ∧ ∀ L0 : List It, (∀ x ∈ L0, x.ok) → l = 34 :: (srcs L0 ++ [34]) → T.data.toList = tgts L0
def SomeUnq (l : List UInt8) (e : Ending) : Prop := ∃ T b, ∃ n : Int, e = .returned (.tuple #[.string T, .int .i64 n, .bool b]) ∧ Unq l T
def URel (l : List UInt8) (B : Nat) (w wr : World) (i : Nat) (acc : List UInt8) : Prop :=
  Lib.IsBuilderF 96 5 B B (Lib.byteCells acc) wr ∧ Below B w wr ∧ UIn l i acc ∧ acc.length ≤ i ∧ i ≤ l.length
set_option maxHeartbeats 4000000 in
set_option maxRecDepth 1000000 in
theorem unquoted_any (s : ByteArray) (w : World) (hs : s.size ≤ 1099511627776) :
    Calls Tryd.prog 86 #[.string s] w fun e w' => SomeUnq s.data.toList e ∧ Below w.heap.size w w' := by
  obtain ⟨l, hl⟩ : ∃ l, s.data.toList = l := ⟨_, rfl⟩
  have hsz : l.length = s.size := by rw [← hl]; exact size_list s
  have hg : ∀ (i : Nat) (h : i < s.size), l[i]? = some s[i] := fun i h => by
    rw [← hl, List.getElem?_eq_getElem (by rw [size_list]; exact h)]; rfl
  have htl : ∀ i, (s.extract i s.size).data.toList = l.drop i := fun i => by rw [tailList, hl]
  have c1 := fun w => hasPrefix_any s ⟨#[34]⟩ w
  simp only [hl] at c1
  rw [hl]
  have HG := Lib.hid hg
  have HSZ := Lib.hid hsz
  have HTL := Lib.hid htl
  clear hl hg hsz htl
  cases h1 : hasPrefix l [34] with
  | false =>
    have hU : Unq l ⟨#[]⟩ := ⟨Nat.zero_le _, fun L0 _ e => by rw [e] at h1; simp [hasPrefix, List.isPrefixOf] at h1⟩
    have HU := Lib.hid hU
    simp only [h1] at c1
    clear h1 hU
    go_enter Tryd.func86, Tryd.ntmps86
    go_wp2_with fail
    refine (c1 _).mono ?_
    rintro e w1 ⟨rfl, rfl⟩
    go_wp2_with fail
    exact bodyPost_ret (v := .tuple #[.string ⟨#[]⟩, .int .i64 0, .bool false]) (by simp [results, Tryd.results86, go_sem]) rfl ⟨⟨_, _, _, rfl, HU.out⟩, Below.refl _ _⟩
  | true =>
    have hF := Lib.IsBuilderF.of (Lib.fresh_isBuilder 96 5 w)
    have hpos : 0 < l.length := by
      cases l with
      | nil => simp [hasPrefix, List.isPrefixOf] at h1
      | cons a r => simp
    simp only [h1] at c1
    have h0 : URel l w.heap.size w (w.alloc (.cells #[.pointer none, .slice none 0 0] 96)) 1 [] := ⟨hF, below_alloc w _, UIn.start l, by simp, hpos⟩
    have H0 := Lib.hid h0
    clear h0 hF h1
    go_enter Tryd.func86, Tryd.ntmps86
    go_wp2_with fail
    refine (c1 _).mono ?_
    rintro e w1 ⟨rfl, rfl⟩
    go_wp2_with fail
    go_loopw [6] (fun iv wr => ∃ i acc, URel l w1.heap.size w1 wr i acc ∧ iv = .int .i64 (i : Int)) (fun iv _ => s.size - (Go.RowKit.intOf iv).toNat)
    case atStart => exact ⟨1, [], H0.out, rfl⟩
    case round =>
      obtain ⟨i, acc, hR, rfl⟩ := hrel
      obtain ⟨hI, hbw, hU, hal, hil⟩ := hR
      rw [HSZ.out] at hil
      have HU := Lib.hid hU
      have hsz1 := hbw.size
      clear H0 hU c1
      by_cases hlt : i < s.size
      · have hc := HG.out i hlt
        have hltz : (i : Int) < (s.size : Int) := by omega
        by_cases h34 : s[i].toNat = 34
        · have t1 : ((s[i].toNat : Int) == 34) = true := by rw [h34]; rfl
          have hend : Unq l ⟨acc.toArray⟩ := ⟨by rw [HSZ.out]; show acc.toArray.size ≤ _; rw [List.size_toArray]; omega, fun L0 hok e => by
            rw [HU.out.end (by rw [hc]; congr 1; exact UInt8.toNat_inj.1 h34) L0 hok e]⟩
          have HEND := Lib.hid hend
          have cS := fun w h hb => bString w1.heap.size w1.heap.size acc w h hb
          clear hend hc h34
          go_wp2_with fail
          refine (cS _ hI hsz1).mono ?_
          rintro e w3 ⟨rfl, -, hb3, -⟩
          go_wp2_with fail
          exact bodyPost_ret (v := .tuple #[.string ⟨acc.toArray⟩, .int .i64 ((i : Int) + 1), .bool true]) (by simp [results, Tryd.results86, go_sem]) rfl ⟨⟨_, _, _, rfl, HEND.out⟩, hbw.trans hb3⟩
        · have t1 : ((s[i].toNat : Int) == 34) = false := beq_eq_false_iff_ne.2 (by omega)
          by_cases h92 : s[i].toNat = 92
          · have t2 : ((s[i].toNat : Int) == 92) = true := by rw [h92]; rfl
            have hc92 : l[i]? = some 92 := by rw [hc]; congr 1; exact UInt8.toNat_inj.1 h92
            have htd := HTL.out i
            have hxz : (s.extract i s.size).size ≤ 1099511627776 := by
              rw [← size_list, htd, List.length_drop, HSZ.out]; omega
            have cE := fun w => escaped_any (s.extract i s.size) w hxz
            rw [htd] at cE
            have hel := HSZ.out
            have HC := Lib.hid hc92
            have HEL := Lib.hid hel
            clear hc h34 h92 htd hxz hc92 hel
            go_wp2_with fail
            refine (cE _).mono ?_
            rintro e w3 ⟨⟨r, n, rfl, hE⟩, rfl⟩
            have HE := Lib.hid hE
            obtain ⟨r0, r1, hn1, hn6, hnl, -, -⟩ := hE
            by_cases hn : n = 0
            · subst hn
              have hend : Unq l ⟨#[]⟩ := ⟨Nat.zero_le _, fun L0 hok e => absurd e (HU.out.bad HC.out HE.out L0 hok)⟩
              have HEND := Lib.hid hend
              clear hend cE
              go_wp2_with fail
              exact bodyPost_ret (v := .tuple #[.string ⟨#[]⟩, .int .i64 0, .bool false]) (by simp [results, Tryd.results86, go_sem]) rfl ⟨⟨_, _, _, rfl, HEND.out⟩, hbw⟩
            · have hnl := hnl.resolve_left hn
              rw [List.length_drop, HEL.out] at hn1
              have hn0 : ((n : Int) == 0) = false := beq_eq_false_iff_ne.2 (by omega)
              have cR := fun w h hb => bWriteRune w1.heap.size w1.heap.size (Lib.byteCells acc) r (by omega) (by omega) w h (by rw [Lib.byteCells_length]; omega) hb
              have HNL := Lib.hid hnl
              clear cE hnl
              go_wp2_with fail
              refine (cR _ hI hsz1).mono ?_
              rintro e w4 ⟨rfl, h4, hb4, -⟩
              rw [← Lib.byteCells_encodeRune, ← Lib.byteCells_append] at h4
              clear cR
              go_wp2
              go_roundw
              case rel =>
                refine ⟨i + n, acc ++ Lib.encodeRune r, ⟨Or.inr h4, hbw.trans hb4, HU.out.esc HC.out HE.out, ?_, ?_⟩, by go_num⟩
                · rw [List.length_append]; have := HNL.out; omega
                · rw [HSZ.out]; omega
              case measure => simp only [Go.RowKit.intOf]; omega
          · have t2 : ((s[i].toNat : Int) == 92) = false := beq_eq_false_iff_ne.2 (by omega)
            have hby := HU.out.byte hc (fun e => h34 (by rw [e]; rfl)) (fun e => h92 (by rw [e]; rfl))
            have HBY := Lib.hid hby
            have cW := fun w h hb => bWriteByte w1.heap.size w1.heap.size (Lib.byteCells acc) (s[i].toNat : Int) w h (by rw [Lib.byteCells_length]; omega) hb
            clear hby hc h34 h92
            go_wp2_with fail
            refine (cW _ hI hsz1).mono ?_
            rintro e w4 ⟨rfl, h4, hb4, -⟩
            rw [byteCells_snoc] at h4
            clear cW
            go_wp2
            go_roundw
            case rel =>
              refine ⟨i + 1, acc ++ [s[i]], ⟨Or.inr h4, hbw.trans hb4, HBY.out, ?_, ?_⟩, by go_num⟩
              · rw [List.length_append]; simp; omega
              · rw [HSZ.out]; omega
            case measure => simp only [Go.RowKit.intOf]; omega
      · have hend : Unq l ⟨#[]⟩ := ⟨Nat.zero_le _, fun L0 hok e => absurd e (HU.out.none (by rw [HSZ.out]; omega) L0 hok)⟩
        have HEND := Lib.hid hend
        have hltz : ¬ (i : Int) < (s.size : Int) := by omega
        clear hend
        go_wp2_with fail
        exact bodyPost_ret (v := .tuple #[.string ⟨#[]⟩, .int .i64 0, .bool false]) (by simp [results, Tryd.results86, go_sem]) rfl ⟨⟨_, _, _, rfl, HEND.out⟩, hbw⟩
end Go.Proofs.YtfcigknalnmhcaaDoor
