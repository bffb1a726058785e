/- The contract of value.escaped: whatever the text, some rune below 2^16 and how many bytes it takes; the right ones, where an item stands there. -/
import Derived.Test.YtfcigknalnmhcaaDoorVUnq
import Derived.Test.YtfcigknalnmhcaaDoorVBase
import Derived.Test.YtfcigknalnmhcaaDoorVHex
import Derived.Laws.BitsLemmas
import Derived.IntWalk
namespace Go.Proofs.YtfcigknalnmhcaaDoor
open Go.RowKit Go.Lib

theorem shl_or (v d : Nat) (hv : v < 4096) (hd : d < 16) : bits .or .i64 ((v : Int) * 16) (d : Int) = (v : Int) * 16 + (d : Int) :=
  bits_join .i64 63 (by decide) (fun n h0 h1 => by rw [IntKind.wrap_i64]; omega) 4 _ _ (by omega) (by omega) (by omega) (by omega) (by omega) (by omega)
theorem esc_none {l : List UInt8} (h1 : hasPrefix l [92, 34] = false) (h2 : hasPrefix l [92, 92] = false) (h : ∀ q u, q < 160 → l ≠ 92 :: 117 :: (hexL q ++ u)) : Esc l 0 0 := by
  refine ⟨by decide, by decide, Nat.zero_le _, by decide, .inl rfl, ?_, fun q u hq e => absurd e (h q u hq)⟩
  rintro c u (rfl | rfl) rfl
  · simp [hasPrefix, List.isPrefixOf] at h1
  · simp [hasPrefix, List.isPrefixOf] at h2
theorem esc_sign {l u : List UInt8} {c : UInt8} (hc : c = 34 ∨ c = 92) (h : l = 92 :: c :: u) : Esc l (c.toNat : Int) 2 := by
  have h8 := c.toNat_lt
  refine ⟨by omega, by omega, by rw [h]; simp, by decide, .inr ?_, ?_, ?_⟩
  · rw [encode_byte c.toNat (by rcases hc with rfl | rfl <;> decide)]; simp
  · rintro d v hd e
    rw [h] at e
    injection e with _ e; injection e with e _
    rw [e]; exact ⟨rfl, rfl⟩
  · rintro q v hq e
    rw [h] at e
    injection e with _ e; injection e with e _
    rw [e] at hc
    rcases hc with hc | hc <;> exact absurd hc (by decide)
theorem esc_num {l u : List UInt8} (h : l = 92 :: 117 :: u) (h6 : 6 ≤ l.length) {D : List Nat} (hD : Digs l 4 D) : Esc l (digsV D : Int) 6 := by
  have hl := (hD.lt (by decide)).1
  refine ⟨by omega, by omega, h6, by decide, .inr (Nat.le_trans (enc_four _) (by decide)), ?_, ?_⟩
  · rintro d v hd e
    rw [h] at e
    injection e with _ e; injection e with e _
    rw [← e] at hd
    rcases hd with hd | hd <;> exact absurd hd (by decide)
  · rintro q v hq e
    rw [hD.four q hq v e]; exact ⟨rfl, rfl⟩
theorem wrap32_byte (c : UInt8) : wrap32 (c.toNat : Int) = (c.toNat : Int) := by
  have := c.toNat_lt
  unfold wrap32; omega
theorem pre_two {l : List UInt8} {a b : UInt8} (h : hasPrefix l [a, b] = true) : ∃ u, l = a :: b :: u := by
  match l, h with
  | x :: y :: u, h =>
    simp only [hasPrefix, List.isPrefixOf, Bool.and_eq_true, beq_iff_eq] at h
    exact ⟨u, by rw [h.1, h.2.1]⟩
  | [x], h => simp [hasPrefix, List.isPrefixOf] at h
  | [], h => simp [hasPrefix, List.isPrefixOf] at h
def SomeEsc (l : List UInt8) (e : Ending) : Prop := ∃ r n, e = .returned (.tuple #[.int .i32 r, .int .i64 (n : Nat)]) ∧ Esc l r n
set_option maxHeartbeats 4000000 in
set_option maxRecDepth 100000 in
theorem escaped_any (t : ByteArray) (w : World) (hs : t.size ≤ 1099511627776) :
    Calls Tryd.prog 103 #[.string t] w fun e w' => SomeEsc t.data.toList e ∧ w = w' := by
  obtain ⟨l, hl⟩ : ∃ l, t.data.toList = l := ⟨_, rfl⟩
  have c1 := fun w => hasPrefix_any t ⟨#[92, 34]⟩ w
  have c2 := fun w => hasPrefix_any t ⟨#[92, 92]⟩ w
  have c3 := fun w => hasPrefix_any t ⟨#[92, 117]⟩ w
  have hsz : l.length = t.size := by rw [← hl]; exact size_list t
  have hg : ∀ (i : Nat) (h : i < t.size), l[i]? = some t[i] := fun i h => by
    rw [← hl, List.getElem?_eq_getElem (by rw [size_list]; exact h)]; rfl
  simp only [hl] at c1
  simp only [hl] at c2
  simp only [hl] at c3
  rw [hl]
  have HG := Lib.hid hg
  have HSZ := Lib.hid hsz
  clear hl hg hsz
  have hsign : ∀ c : UInt8, (c = 34 ∨ c = 92) → hasPrefix l [92, c] = true → ∃ h : 1 < t.size, Esc l (t[1].toNat : Int) 2 := by
    intro c hc hp
    obtain ⟨u, hu⟩ := pre_two hp
    have hlt : 1 < t.size := by rw [← HSZ.out, hu]; simp
    refine ⟨hlt, ?_⟩
    have := HG.out 1 hlt
    rw [hu] at this
    injection this with this
    rw [← this]
    exact esc_sign hc hu
  cases h1 : hasPrefix l [92, 34] with
  | true =>
    obtain ⟨hlt, hE⟩ := hsign 34 (.inl rfl) h1
    simp only [h1] at c1
    have HE := Lib.hid hE
    have hltz : (1 : Int) < (t.size : Int) := by omega
    clear hsign h1 c2 c3 hE
    go_enter Tryd.func103, Tryd.ntmps103
    go_wp2_with fail
    refine (c1 _).mono ?_
    rintro e w1 ⟨rfl, rfl⟩
    go_wp2_with fail
    go_ret2
    exact ⟨⟨_, 2, rfl, by rw [wrap32_byte]; exact HE.out⟩, rfl⟩
  | false =>
    cases h2 : hasPrefix l [92, 92] with
    | true =>
      obtain ⟨hlt, hE⟩ := hsign 92 (.inr rfl) h2
      simp only [h1] at c1
      simp only [h2] at c2
      have HE := Lib.hid hE
      have hltz : (1 : Int) < (t.size : Int) := by omega
      clear hsign h1 h2 c3 hE
      go_enter Tryd.func103, Tryd.ntmps103
      go_wp2_with fail
      refine (c1 _).mono ?_
      rintro e w1 ⟨rfl, rfl⟩
      go_wp2_with fail
      refine (c2 _).mono ?_
      rintro e w2 ⟨rfl, rfl⟩
      go_wp2_with fail
      go_ret2
      exact ⟨⟨_, 2, rfl, by rw [wrap32_byte]; exact HE.out⟩, rfl⟩
    | false =>
      have hN := Lib.hid (esc_none h1 h2)
      simp only [h1] at c1
      simp only [h2] at c2
      clear hsign h1 h2
      cases h3 : hasPrefix l [92, 117] with
      | false =>
        have hE := hN.out (fun q u hq e => by rw [e] at h3; simp [hasPrefix, List.isPrefixOf] at h3)
        have HE := Lib.hid hE
        simp only [h3] at c3
        clear h3 hE
        go_enter Tryd.func103, Tryd.ntmps103
        go_wp2_with fail
        refine (c1 _).mono ?_
        rintro e w1 ⟨rfl, rfl⟩
        go_wp2_with fail
        refine (c2 _).mono ?_
        rintro e w2 ⟨rfl, rfl⟩
        go_wp2_with fail
        refine (c3 _).mono ?_
        rintro e w3 ⟨rfl, rfl⟩
        go_wp2_with fail
        go_ret2
        exact ⟨⟨0, 0, rfl, HE.out⟩, rfl⟩
      | true =>
        obtain ⟨u, hu⟩ := pre_two h3
        simp only [h3] at c3
        clear h3
        by_cases h6 : t.size < 6
        · have hE := hN.out (fun q v hq e => by
            have := congrArg List.length e
            rw [HSZ.out] at this
            simp [hexL_len] at this; omega)
          have HE := Lib.hid hE
          clear hE hu
          have hz : (t.size : Int) < 6 := by omega
          go_enter Tryd.func103, Tryd.ntmps103
          go_wp2_with fail
          refine (c1 _).mono ?_
          rintro e w1 ⟨rfl, rfl⟩
          go_wp2_with fail
          refine (c2 _).mono ?_
          rintro e w2 ⟨rfl, rfl⟩
          go_wp2_with fail
          refine (c3 _).mono ?_
          rintro e w3 ⟨rfl, rfl⟩
          go_wp2_with fail
          go_ret2
          exact ⟨⟨0, 0, rfl, HE.out⟩, rfl⟩
        · have hz : ¬ (t.size : Int) < 6 := by omega
          have HU := Lib.hid hu
          clear hu
          go_enter Tryd.func103, Tryd.ntmps103
          go_wp2_with fail
          refine (c1 _).mono ?_
          rintro e w1 ⟨rfl, rfl⟩
          go_wp2_with fail
          refine (c2 _).mono ?_
          rintro e w2 ⟨rfl, rfl⟩
          go_wp2_with fail
          refine (c3 _).mono ?_
          rintro e w3 ⟨rfl, rfl⟩
          go_wp2_with fail
          go_loop [4, 5] (fun rv iv => ∃ (k : Nat) (D : List Nat), k ≤ 4 ∧ Digs l k D ∧ rv = .int .i64 (digsV D : Int) ∧ iv = .int .i64 (2 + (k : Int))) (fun _ iv => (6 - Go.RowKit.intOf iv).toNat)
          case atStart => exact ⟨0, [], by omega, Digs.start l, rfl, rfl⟩
          case round =>
            obtain ⟨k, D, hk, hD, rfl, rfl⟩ := hrel
            have hlt := hD.lt hk
            have HD := Lib.hid hD
            clear hD c1 c2 c3
            by_cases h4 : k < 4
            · have hin : 2 + k < t.size := by omega
              have hc := HG.out (2 + k) hin
              have hv := hlt.2 h4
              have cI := fun w => indexByte_any ⟨#[48, 49, 50, 51, 52, 53, 54, 55, 56, 57, 97, 98, 99, 100, 101, 102]⟩ (t[2 + k].toNat : Int) w
              have hcs : ((t[2 + k].toNat : Int)).toNat.toUInt8 = t[2 + k] := by simp
              simp only [hcs] at cI
              have hi0 := idx_range t[2 + k]
              rcases hi0 with hi0 | ⟨d, hd, hi0, hcd⟩
              · have hE := hN.out (fun q v hq => no_digit h4 hc (fun d hd e => by
                  rw [e, idx_hx ⟨d, hd⟩] at hi0
                  dsimp only at hi0; omega) q v)
                have HE := Lib.hid hE
                have hi : indexByte [48, 49, 50, 51, 52, 53, 54, 55, 56, 57, 97, 98, 99, 100, 101, 102] t[2 + k] = -1 := hi0
                simp only [hi] at cI
                clear hE hc hcs hi hi0
                go_wp2_with fail
                refine (cI _).mono ?_
                rintro e w4 ⟨rfl, rfl⟩
                go_wp2_with fail
                go_ret2
                exact ⟨⟨0, 0, rfl, HE.out⟩, rfl⟩
              · have hn := HD.out.next hd (by rw [hc, hcd])
                have HN := Lib.hid hn
                have hi : indexByte [48, 49, 50, 51, 52, 53, 54, 55, 56, 57, 97, 98, 99, 100, 101, 102] t[2 + k] = (d : Int) := hi0
                simp only [hi] at cI
                have hor := shl_or (digsV D) d hv hd
                have hvs := digsV_snoc D d
                clear hcd hc hcs hi hi0 hn
                go_wp2_with fail
                refine (cI _).mono ?_
                rintro e w4 ⟨rfl, rfl⟩
                go_wp2_with fail
                go_round
                case rel => exact ⟨k + 1, _, by omega, HN.out, by rw [hvs]; go_num, by go_num⟩
                case measure => simp [Go.RowKit.intOf]; omega
            · obtain rfl : k = 4 := by omega
              have hE := esc_num HU.out (by rw [HSZ.out]; omega) HD.out
              have HE := Lib.hid hE
              have hlo := hlt.1
              clear hE
              go_wp2_with fail
              go_ret2
              exact ⟨⟨_, 6, rfl, HE.out⟩, rfl⟩
end Go.Proofs.YtfcigknalnmhcaaDoor
