/- The contract of the document's own bare: whatever the text, some text that is no longer; of a quoted text, what it quotes. -/
import Derived.Test.YtfcigknalnmhcaaDoorVEsc
import Derived.Test.YtfcigknalnmhcaaDoorRefBytes
import Derived.Deep.QuietTactic
import Derived.BigQuiet
namespace Go.Proofs.YtfcigknalnmhcaaDoor
open Go.RowKit Go.Lib

set_option maxHeartbeats 1000000 in
set_option maxRecDepth 100000 in
theorem refBytes_gap (r : Int) (w : World) (h0 : 55296 ≤ r) (h1 : r ≤ 57343) :
    Calls Tryd.prog 89 #[.int .i32 r] w fun e w' => (∃ T : ByteArray, e = .returned (.string T) ∧ T.size ≤ 4) ∧ Below w.heap.size w w' := by
  have hcv : (convert 48 9 (.slice (some ⟨w.heap.size, 0, none⟩) 3 3)).run Tryd.prog (w.alloc (.cells #[.int .u8 (224 + r / 4096), .int .u8 (128 + r / 64 % 64), .int .u8 (128 + r % 64)] 5)) =
      .ok (.string ⟨[(224 + r / 4096).toNat.toUInt8, (128 + r / 64 % 64).toNat.toUInt8, (128 + r % 64).toNat.toUInt8].toArray⟩) (w.alloc (.cells #[.int .u8 (224 + r / 4096), .int .u8 (128 + r / 64 % 64), .int .u8 (128 + r % 64)] 5)) := by
    refine run_string_of (P := Tryd.prog) _ _ _ 5 w.heap.size 3 _ 3 rfl Tryd.underlying48 Tryd.underlying5 Tryd.underlying9 ?_
    intro j v hv
    have e0 := u8_of (224 + r / 4096) (by omega) (by omega)
    have e1 := u8_of (128 + r / 64 % 64) (by omega) (by omega)
    have e2 := u8_of (128 + r % 64) (by omega) (by omega)
    simp only [Lib.byteCells, List.map_cons, List.map_nil, e0, e1, e2] at hv
    rw [World.cell?, alloc_at]
    simpa using hv
  have hlt : r < 65536 := by omega
  have hge : 2048 ≤ r := by omega
  generalize hT : (⟨[(224 + r / 4096).toNat.toUInt8, (128 + r / 64 % 64).toNat.toUInt8, (128 + r % 64).toNat.toUInt8].toArray⟩ : ByteArray) = T at hcv
  have hs : T.size ≤ 4 := by rw [← hT]; simp [ByteArray.size]
  clear hT
  go_enter Tryd.func89, Tryd.ntmps89
  go_wp2
  go_ret
  exact ⟨⟨T, rfl, hs⟩, (Below.refl _ _).alloc (Nat.le_refl _) _⟩
/-- The bytes of a rune below 2^16, be it one or not. -/
theorem refBytes_small (v : Nat) (w : World) (h : v < 65536) :
    Calls Tryd.prog 89 #[.int .i32 (v : Int)] w fun e w' => (∃ B : List UInt8, e = .returned (.string ⟨B.toArray⟩) ∧ B.length ≤ 4 ∧ (v < 160 → B = encodeRune (v : Int))) ∧ Below w.heap.size w w' := by
  by_cases hg : 55296 ≤ v ∧ v ≤ 57343
  · refine (refBytes_gap (v : Int) w (by omega) (by omega)).mono ?_
    rintro e w' ⟨⟨T, rfl, hT⟩, hb⟩
    exact ⟨⟨T.data.toList, by simp, by rw [size_list]; exact hT, fun h => by omega⟩, hb⟩
  · refine (refBytes_any (v : Int) w (by unfold Scalar; omega)).mono ?_
    rintro e w' ⟨rfl, hb⟩
    exact ⟨⟨_, rfl, enc_four v, fun _ => rfl⟩, hb⟩
def BareEnd (l : List UInt8) (T : ByteArray) (b : Bool) : Prop :=
  T.size ≤ l.length ∧ (b = true → ∃ r, l = 34 :: r ∧ r ≠ []) ∧ ∀ L0 : List It, (∀ x ∈ L0, x.ok) → l = 34 :: (srcs L0 ++ [34]) → b = true ∧ T.data.toList = tgts L0
def SomeBare (l : List UInt8) (e : Ending) : Prop := ∃ T b, e = .returned (.tuple #[.string T, .bool b]) ∧ BareEnd l T b
theorem bare_no {l : List UInt8} (h : ∀ L0 : List It, (∀ x ∈ L0, x.ok) → l ≠ 34 :: (srcs L0 ++ [34])) : BareEnd l ⟨#[]⟩ false := ⟨Nat.zero_le _, (fun h => by cases h), fun L0 hok e => absurd e (h L0 hok)⟩
theorem hx_of {c : UInt8} : (48 ≤ c.toNat ∧ c.toNat ≤ 57 → c = hx (c.toNat - 48)) ∧ (97 ≤ c.toNat ∧ c.toNat ≤ 102 → c = hx (c.toNat - 87)) ∧ (¬ (48 ≤ c.toNat ∧ c.toNat ≤ 57) → ¬ (97 ≤ c.toNat ∧ c.toNat ≤ 102) → ∀ d, d < 16 → c ≠ hx d) := by
  refine ⟨fun h => ?_, fun h => ?_, fun h1 h2 d hd e => ?_⟩
  · unfold hx; rw [if_pos (by omega)]
    apply UInt8.toNat_inj.1; rw [u8_nat _ (by omega)]; omega
  · unfold hx; rw [if_neg (by omega)]
    apply UInt8.toNat_inj.1; rw [u8_nat _ (by omega)]; omega
  · unfold hx at e
    split at e
    · rw [e, u8_nat _ (by omega)] at h1; omega
    · rw [e, u8_nat _ (by omega)] at h2; omega
/-- What stands between the quotes. -/
theorem inner_of {l m : List UInt8} (hm : m = (l.drop 1).take (l.length - 2)) {L0 : List It} (h : l = 34 :: (srcs L0 ++ [34])) : m = srcs L0 := by
  rw [hm, h]; simp
theorem one_at (t : ByteArray) (i : Nat) (h : i < t.size) : t.extract i (i + 1) = ⟨#[t[i]]⟩ := by
  apply ByteArray.ext
  apply Array.toList_inj.1
  rw [Lib.extract_data, show i + 1 - i = 1 by omega]
  have hl : i < t.data.toList.length := by rw [size_list]; exact h
  rw [List.drop_eq_getElem_cons hl]
  rfl
def BRel (l : List UInt8) (w wr : World) (i : Nat) (acc : List UInt8) : Prop := BIn l i acc ∧ acc.length ≤ i ∧ i ≤ l.length ∧ Below w.heap.size w wr
set_option maxHeartbeats 4000000 in
set_option maxRecDepth 100000 in
theorem bare_any (s : ByteArray) (w : World) (hs : s.size ≤ 1099511627776) :
    Calls Tryd.prog 61 #[.string s] w fun e w' => SomeBare s.data.toList e ∧ Below w.heap.size w w' := by
  obtain ⟨l, hl⟩ : ∃ l, s.data.toList = l := ⟨_, rfl⟩
  have hsz : l.length = s.size := by rw [← hl]; exact size_list s
  have hg : ∀ (i : Nat) (h : i < s.size), l[i]? = some s[i] := fun i h => by
    rw [← hl, List.getElem?_eq_getElem (by rw [size_list]; exact h)]; rfl
  rw [hl]
  have HG := Lib.hid hg
  have HSZ := Lib.hid hsz
  have HL := Lib.hid hl
  clear hl hg hsz
  by_cases h2 : s.size < 2
  · have hE := bare_no (l := l) (fun L0 _ e => by
      have h3 := HSZ.out
      rw [e] at h3; simp at h3; omega)
    have HE := Lib.hid hE
    have hz : (s.size : Int) < 2 := by omega
    clear hE
    go_enter Tryd.func61, Tryd.ntmps61
    go_wp2_with fail
    go_ret2
    exact ⟨⟨_, _, rfl, HE.out⟩, Below.refl _ _⟩
  · have hz : ¬ (s.size : Int) < 2 := by omega
    have hp0 : 0 < s.size := by omega
    have hp1 : s.size - 1 < s.size := by omega
    have hc0 := HG.out 0 hp0
    have hc1 := HG.out (s.size - 1) hp1
    by_cases h34 : s[0].toNat = 34
    · have t1 : ((s[0].toNat : Int) != 34) = false := by rw [h34]; rfl
      have hlast : ((s.size : Int) - 1).toNat = s.size - 1 := by omega
      have hge : (0 : Int) ≤ (s.size : Int) - 1 := by omega
      by_cases h341 : s[s.size - 1].toNat = 34
      · have t2 : ((s[s.size - 1].toNat : Int) != 34) = false := by rw [h341]; rfl
        have hm0 : (s.extract 1 (s.size - 1)).data.toList = (l.drop 1).take (l.length - 2) := by
          rw [Lib.extract_data, HL.out, HSZ.out, show s.size - 1 - 1 = s.size - 2 by omega]
        obtain ⟨t, ht⟩ : ∃ t, s.extract 1 (s.size - 1) = t := ⟨_, rfl⟩
        rw [ht] at hm0
        obtain ⟨m, hm⟩ : ∃ m, t.data.toList = m := ⟨_, rfl⟩
        rw [hm] at hm0
        have hmz : m.length = t.size := by rw [← hm]; exact size_list t
        have hms : t.size + 2 = s.size := by rw [← hmz, hm0, List.length_take, List.length_drop, HSZ.out]; omega
        have hgm : ∀ (i : Nat) (h : i < t.size), m[i]? = some t[i] := fun i h => by
          rw [← hm, List.getElem?_eq_getElem (by rw [size_list]; exact h)]; rfl
        have HM := Lib.hid hm0
        have HMZ := Lib.hid hmz
        have HGM := Lib.hid hgm
        have HMS := Lib.hid hms
        have hhd : ∃ r, l = 34 :: r ∧ r ≠ [] := by
          have h3 := HSZ.out
          cases l with
          | nil => simp at h3; omega
          | cons c r =>
            injection hc0 with hc0
            refine ⟨r, by rw [hc0, show s[0] = 34 from UInt8.toNat_inj.1 h34], ?_⟩
            rintro rfl
            simp at h3; omega
        have HHD := Lib.hid hhd
        have hts : t.size ≤ 1099511627776 := by omega
        have h0 : BRel m w w 0 [] := ⟨BIn.start m, Nat.le_refl _, Nat.zero_le _, Below.refl _ _⟩
        have H0 := Lib.hid h0
        have hno : (∀ L0 : List It, (∀ x ∈ L0, x.ok) → m ≠ srcs L0) → BareEnd l ⟨#[]⟩ false := fun h => bare_no (fun L0 hok e => h L0 hok (inner_of HM.out e))
        have HNO := Lib.hid hno
        clear hm0 hm hmz hgm hms hhd h0 hno hc0 hc1 h34 h341
        go_enter Tryd.func61, Tryd.ntmps61
        go_wp2_with fail
        go_loopw [4, 5] (fun tv iv wr => ∃ i acc, BRel m w wr i acc ∧ tv = .string ⟨acc.toArray⟩ ∧ iv = .int .i64 (i : Int)) (fun _ iv _ => t.size - (Go.RowKit.intOf iv).toNat)
        case atStart => exact ⟨0, [], H0.out, rfl, rfl⟩
        case round =>
          obtain ⟨i, acc, ⟨hB, hal, hil, hbw⟩, rfl, rfl⟩ := hrel
          rw [HMZ.out] at hil
          have HB := Lib.hid hB
          clear hB H0
          by_cases hlt : i < t.size
          · have hc := HGM.out i hlt
            have hltz : (i : Int) < (t.size : Int) := by omega
            by_cases h92 : t[i].toNat = 92
            · have t3 : ((t[i].toNat : Int) != 92) = false := by rw [h92]; rfl
              have hc92 : m[i]? = some 92 := by rw [hc]; congr 1; exact UInt8.toNat_inj.1 h92
              have HC := Lib.hid hc92
              clear hc hc92 h92
              by_cases hi1 : t.size ≤ i + 1
              · have hE := HNO.out (fun L0 hok => HB.out.short HC.out (by rw [HMZ.out]; exact hi1) L0 hok)
                have HE := Lib.hid hE
                have hz1 : (t.size : Int) ≤ (i : Int) + 1 := by omega
                clear hE
                go_wp2_with fail
                go_ret2
                exact ⟨⟨_, _, rfl, HE.out⟩, hbw⟩
              · have hz1 : ¬ (t.size : Int) ≤ (i : Int) + 1 := by omega
                have hlt1 : i + 1 < t.size := by omega
                have hlt1z : (i : Int) + 1 < (t.size : Int) := by omega
                have hc1 := HGM.out (i + 1) hlt1
                by_cases hu : t[i + 1].toNat = 117
                · have t4 : ((t[i + 1].toNat : Int) != 117) = false := by rw [hu]; rfl
                  have hcu : m[i + 1]? = some 117 := by rw [hc1]; congr 1; exact UInt8.toNat_inj.1 hu
                  have HCU := Lib.hid hcu
                  clear hc1 hcu hu
                  by_cases hi5 : t.size ≤ i + 5
                  · have hE := HNO.out (fun L0 hok => HB.out.shorter HC.out HCU.out (by rw [HMZ.out]; exact hi5) L0 hok)
                    have HE := Lib.hid hE
                    have hz5 : (t.size : Int) ≤ (i : Int) + 5 := by omega
                    clear hE
                    go_wp2_with fail
                    go_ret2
                    exact ⟨⟨_, _, rfl, HE.out⟩, hbw⟩
                  · have hz5 : ¬ (t.size : Int) ≤ (i : Int) + 5 := by omega
                    go_wp2_with fail
                    go_loop [6, 7] (fun vv kv => ∃ (k : Nat) (D : List Nat), k ≤ 4 ∧ Digs (m.drop i) k D ∧ vv = .int .i64 (digsV D : Int) ∧ kv = .int .i64 (2 + (k : Int))) (fun _ kv => (6 - Go.RowKit.intOf kv).toNat)
                    case atStart => exact ⟨0, [], by omega, Digs.start _, rfl, rfl⟩
                    case round =>
                      obtain ⟨k, D, hk, hD, rfl, rfl⟩ := hrel
                      have hlv := hD.lt hk
                      have HD := Lib.hid hD
                      clear hD
                      by_cases h4 : k < 4
                      · have hin : i + (2 + k) < t.size := by omega
                        have hinz : (i : Int) + (2 + (k : Int)) < (t.size : Int) := by omega
                        have hcd : (m.drop i)[2 + k]? = some t[i + (2 + k)] := by rw [List.getElem?_drop]; exact HGM.out _ hin
                        have hv := hlv.2 h4
                        have hb8 := (t[i + (2 + k)]).toNat_lt
                        have hxs := hx_of (c := t[i + (2 + k)])
                        by_cases h09 : 48 ≤ t[i + (2 + k)].toNat ∧ t[i + (2 + k)].toNat ≤ 57
                        · have hnd := HD.out.next (d := t[i + (2 + k)].toNat - 48) (by omega) (by rw [hcd, ← hxs.1 h09])
                          have hvs := digsV_snoc D (t[i + (2 + k)].toNat - 48)
                          have HND := Lib.hid hnd
                          have HVS := Lib.hid hvs
                          have ha : (48 : Int) ≤ (t[i + (2 + k)].toNat : Int) := by omega
                          have hb : (t[i + (2 + k)].toNat : Int) ≤ 57 := by omega
                          clear hnd hvs hcd hxs h09
                          go_wp2_with fail
                          exact ⟨⟨k + 1, _, by omega, HND.out, by rw [HVS.out]; congr 1; omega, rfl⟩, by simp only [Go.RowKit.intOf]; omega⟩
                        · by_cases haf : 97 ≤ t[i + (2 + k)].toNat ∧ t[i + (2 + k)].toNat ≤ 102
                          · have hnd := HD.out.next (d := t[i + (2 + k)].toNat - 87) (by omega) (by rw [hcd, ← hxs.2.1 haf])
                            have hvs := digsV_snoc D (t[i + (2 + k)].toNat - 87)
                            have HND := Lib.hid hnd
                            have HVS := Lib.hid hvs
                            have ha : (48 : Int) ≤ (t[i + (2 + k)].toNat : Int) := by omega
                            have hb : ¬ (t[i + (2 + k)].toNat : Int) ≤ 57 := by omega
                            have ha2 : (97 : Int) ≤ (t[i + (2 + k)].toNat : Int) := by omega
                            have hb2 : (t[i + (2 + k)].toNat : Int) ≤ 102 := by omega
                            clear hnd hvs hcd hxs h09
                            go_wp2_with fail
                            exact ⟨⟨k + 1, _, by omega, HND.out, by rw [HVS.out]; congr 1; omega, rfl⟩, by simp only [Go.RowKit.intOf]; omega⟩
                          · have hE := HNO.out (fun L0 hok => HB.out.bad HC.out HCU.out h4 hcd (hxs.2.2 h09 haf) L0 hok)
                            have HE := Lib.hid hE
                            clear hE hcd hxs
                            by_cases h48 : t[i + (2 + k)].toNat < 48
                            · have ha : ¬ (48 : Int) ≤ (t[i + (2 + k)].toNat : Int) := by omega
                              have ha2 : ¬ (97 : Int) ≤ (t[i + (2 + k)].toNat : Int) := by omega
                              clear h09 haf
                              go_wp2_with fail
                              go_ret2
                              exact ⟨⟨_, _, rfl, HE.out⟩, hbw⟩
                            · have ha : (48 : Int) ≤ (t[i + (2 + k)].toNat : Int) := by omega
                              have hb : ¬ (t[i + (2 + k)].toNat : Int) ≤ 57 := by omega
                              by_cases h97 : t[i + (2 + k)].toNat < 97
                              · have ha2 : ¬ (97 : Int) ≤ (t[i + (2 + k)].toNat : Int) := by omega
                                clear h09 haf
                                go_wp2_with fail
                                go_ret2
                                exact ⟨⟨_, _, rfl, HE.out⟩, hbw⟩
                              · have ha2 : (97 : Int) ≤ (t[i + (2 + k)].toNat : Int) := by omega
                                have hb2 : ¬ (t[i + (2 + k)].toNat : Int) ≤ 102 := by omega
                                clear h09 haf
                                go_wp2_with fail
                                go_ret2
                                exact ⟨⟨_, _, rfl, HE.out⟩, hbw⟩
                      · obtain rfl : k = 4 := by omega
                        have cB := fun w => refBytes_small (digsV D) w hlv.1
                        have hlo := hlv.1
                        clear hlv
                        go_wp2_with fail
                        refine (cB _).mono ?_
                        rintro e w2 ⟨⟨B, rfl, hB4, hBe⟩, hb2⟩
                        have hnx := HB.out.num HC.out HCU.out HD.out hBe
                        have HNX := Lib.hid hnx
                        have hap : (⟨acc.toArray⟩ : ByteArray) ++ (⟨B.toArray⟩ : ByteArray) = ⟨(acc ++ B).toArray⟩ := by apply ByteArray.ext; simp
                        have hov : ¬ 9223372036854775807 < acc.length + B.length := by omega
                        have hbw2 := below_to hbw hb2
                        clear hnx hBe cB
                        go_wp2_with fail
                        exact ⟨⟨i + 6, _, ⟨HNX.out, by rw [List.length_append]; omega, by rw [HMZ.out]; omega, hbw2⟩, rfl, rfl⟩, by simp only [Go.RowKit.intOf]; omega⟩
                · have t4 : ((t[i + 1].toNat : Int) != 117) = true := by rw [bne, beq_eq_false_iff_ne.2 (by omega)]; rfl
                  have hnx := HB.out.esc HC.out hc1 (fun e => hu (by rw [e]; rfl))
                  have HNX := Lib.hid hnx
                  have hx1 := one_at t (i + 1) hlt1
                  have hx2 : t.extract (i + 1) (i + 2) = ⟨#[t[i + 1]]⟩ := hx1
                  have hap : (⟨acc.toArray⟩ : ByteArray) ++ (⟨#[t[i + 1]]⟩ : ByteArray) = ⟨(acc ++ [t[i + 1]]).toArray⟩ := by apply ByteArray.ext; simp
                  have hov : ¬ 9223372036854775807 < acc.length + 1 := by omega
                  clear hnx hc1 hu
                  go_wp2_with fail
                  exact ⟨⟨i + 2, _, ⟨HNX.out, by rw [List.length_append]; simp; omega, by rw [HMZ.out]; omega, hbw⟩, rfl, rfl⟩, by simp only [Go.RowKit.intOf]; omega⟩
            · have t3 : ((t[i].toNat : Int) != 92) = true := by rw [bne, beq_eq_false_iff_ne.2 (by omega)]; rfl
              have hnx := HB.out.byte hc (fun e => h92 (by rw [e]; rfl))
              have HNX := Lib.hid hnx
              have hx1 := one_at t i hlt
              have hap : (⟨acc.toArray⟩ : ByteArray) ++ (⟨#[t[i]]⟩ : ByteArray) = ⟨(acc ++ [t[i]]).toArray⟩ := by apply ByteArray.ext; simp
              have hov : ¬ 9223372036854775807 < acc.length + 1 := by omega
              clear hnx hc h92
              go_wp2_with fail
              exact ⟨⟨i + 1, _, ⟨HNX.out, by rw [List.length_append]; simp; omega, by rw [HMZ.out]; omega, hbw⟩, rfl, rfl⟩, by simp only [Go.RowKit.intOf]; omega⟩
          · obtain rfl : i = t.size := by omega
            have hz1 : ¬ ((t.size : Nat) : Int) < (t.size : Int) := by omega
            have hE : BareEnd l ⟨acc.toArray⟩ true := by
              refine ⟨?_, fun _ => HHD.out, fun L0 hok e => ⟨rfl, ?_⟩⟩
              · show acc.toArray.size ≤ _
                rw [List.size_toArray, HSZ.out]; have := HMS.out; omega
              · rw [HB.out.end (by rw [HMZ.out]; exact Nat.le_refl _) L0 hok (inner_of HM.out e)]
            have HE := Lib.hid hE
            clear hE
            go_wp2_with fail
            go_ret2
            exact ⟨⟨_, _, rfl, HE.out⟩, hbw⟩
      · have t2 : ((s[s.size - 1].toNat : Int) != 34) = true := by rw [bne, beq_eq_false_iff_ne.2 (by omega)]; rfl
        have hE := bare_no (l := l) (fun L0 _ e => by
          have h3 := HSZ.out
          rw [e] at hc1 h3
          have : (34 :: (srcs L0 ++ [34]))[s.size - 1]? = some 34 := by
            rw [show s.size - 1 = (34 :: srcs L0).length + 0 by simp at h3 ⊢; omega, ← List.cons_append, List.getElem?_append_right (by simp)]
            simp
          rw [this] at hc1
          injection hc1 with hc1
          exact h341 (by rw [← hc1]; rfl))
        have HE := Lib.hid hE
        clear hE hc0 hc1 h34 h341
        go_enter Tryd.func61, Tryd.ntmps61
        go_wp2_with fail
        go_ret2
        exact ⟨⟨_, _, rfl, HE.out⟩, Below.refl _ _⟩
    · have t1 : ((s[0].toNat : Int) != 34) = true := by rw [bne, beq_eq_false_iff_ne.2 (by omega)]; rfl
      have hE := bare_no (l := l) (fun L0 _ e => by
        rw [e] at hc0
        injection hc0 with hc0
        exact h34 (by rw [← hc0]; rfl))
      have HE := Lib.hid hE
      clear hE hc0 hc1 h34
      go_enter Tryd.func61, Tryd.ntmps61
      go_wp2_with fail
      go_ret2
      exact ⟨⟨_, _, rfl, HE.out⟩, Below.refl _ _⟩
end Go.Proofs.YtfcigknalnmhcaaDoor
