/- The contract of lex.text: the text that stands behind a quote, or that there is none. -/
import Derived.Test.YtbeeeakcjeibgaaDoorLexT
namespace Go.Proofs.YtbeeeakcjeibgaaDoor
open Go.RowKit

/-- What is told of a text. -/
def textO (Z : TextZ) : Option Fd :=
  match Z with
  | none => none
  | some (Rs, k) => if Rs.length ≤ 100 then some ⟨2, encs Rs, 0, k + 1⟩ else none
theorem textT_eq (R : List Pc) : textT R = textO (textF R [] 0) := rfl
def TRel (t : ByteArray) (w0 : World) (K : Nat) (pos : Nat) (acc : List UInt8) (wr : World) : Prop :=
  Lib.IsBuilderF 54 5 w0.heap.size w0.heap.size (Lib.byteCells acc) wr ∧ wr.heap[K]? = some (.stringIter t pos) ∧ Below w0.heap.size w0 wr

set_option maxHeartbeats 4000000 in
set_option maxRecDepth 100000 in
theorem text_any (t : ByteArray) (x : Pc) (R : List Pc) (w : World) (hs : t.size ≤ 1000) (h : pcs t.data.toList = x :: R) (hx : x.1 = 34) (hT : Tabs w) :
    Calls Tryd.prog 43 #[.string t] w (Told x R (textT R) w) := by
  have hPc : Pcd (x :: R) := h ▸ Pcd.of _
  have hst := TextAt.start h hx
  obtain ⟨Z, hZ⟩ : ∃ Z, textF R [] 0 = Z := ⟨_, rfl⟩
  rw [hZ] at hst
  rw [textT_eq, hZ]
  obtain ⟨P, hPe⟩ : ∃ P, x :: R = P := ⟨_, rfl⟩
  have htk : ∀ k, x :: R.take (k + 1) = P.take (k + 2) := fun k => by rw [← hPe]; rfl
  rw [hPe] at hst hPc h
  have hnone : Z = none → toldV x R (textO Z) = .tuple #[T4 0 ⟨#[]⟩ 0 0, .int .i64 0] := fun h => by rw [h]; rfl
  have hlong : ∀ Rs k, Z = some (Rs, k) → ¬ Rs.length ≤ 100 → toldV x R (textO Z) = .tuple #[T4 0 ⟨#[]⟩ 0 0, .int .i64 0] := fun Rs k h h2 => by
    rw [h]; unfold textO; dsimp only; rw [if_neg h2]; rfl
  have hsome : ∀ Rs k n, Z = some (Rs, k) → Rs.length ≤ 100 → (flat (P.take (k + 2))).length = n + 1 → toldV x R (textO Z) = .tuple #[T4 2 ⟨(encs Rs).toArray⟩ 0 0, .int .i64 ((n : Int) + 1)] := fun Rs k n h h2 h3 => by
    rw [h]; unfold textO; dsimp only; rw [if_pos h2]; unfold toldV; dsimp only; rw [htk k, h3]; rfl
  have hb0 := below_alloc w (.cells #[.int .i64 0, .string ⟨#[]⟩, .int .i64 0, .int .i64 0] 32)
  have hF := four_new w (.int .i64 0) (.string ⟨#[]⟩) (.int .i64 0) (.int .i64 0) 32
  have hW0 : w.heap.size < (w.alloc (.cells #[.int .i64 0, .string ⟨#[]⟩, .int .i64 0, .int .i64 0] 32)).heap.size := by rw [alloc_size]; omega
  obtain ⟨w0, hw0⟩ : ∃ w0, w.alloc (.cells #[.int .i64 0, .string ⟨#[]⟩, .int .i64 0, .int .i64 0] 32) = w0 := ⟨_, rfl⟩
  rw [hw0] at hb0 hF hW0
  have hB := Lib.IsBuilderF.of (Lib.fresh_isBuilder 54 5 w0)
  have hb1 := below_alloc w0 (.cells #[.pointer none, .slice none 0 0] 54)
  have hW1 : w0.heap.size < (w0.alloc (.cells #[.pointer none, .slice none 0 0] 54)).heap.size := by rw [alloc_size]; omega
  obtain ⟨w1, hw1⟩ : ∃ w1, w0.alloc (.cells #[.pointer none, .slice none 0 0] 54) = w1 := ⟨_, rfl⟩
  rw [hw1] at hB hb1 hW1
  have hR0 : TRel t w0 w1.heap.size 0 [] (w1.iter t 0) := ⟨Lib.IsBuilderF.alloc hB _, World.iter_heap w1 t 0, hb1.alloc (by omega) _⟩
  have hend : ∀ w2, Below w0.heap.size w0 w2 → Four w2 w.heap.size (.int .i64 0) (.string ⟨#[]⟩) (.int .i64 0) (.int .i64 0) ∧ Below w.heap.size w w2 ∧ Tabs w2 := fun w2 hb => ⟨hF.later hb, below_to hb0 hb, hT.later (below_to hb0 hb)⟩
  have HST := Lib.hid hst
  have HP := Lib.hid h
  have HPC := Lib.hid hPc
  have HR0 := Lib.hid hR0
  have HE := Lib.hid hend
  have HN := Lib.hid hnone
  have HL := Lib.hid hlong
  have HS := Lib.hid hsome
  obtain ⟨O, hO⟩ : ∃ O, toldV x R (textO Z) = O := ⟨_, rfl⟩
  unfold Told
  rw [hO]
  have HO := Lib.hid hO
  clear hst h hPc hR0 hend hnone hlong hsome htk hO hB hb0 hb1 hF hPe hZ hx hT
  go_enter Tryd.func43, Tryd.ntmps43
  go_wp2
  go_step3
  go_wp2
  go_step3
  go_wp2
  go_loopg [5, 6] (P.length) (fun n s5 s6 wr => ∃ pos C Y next acc, Hid (TextAt t P Z pos C Y next acc) ∧ Hid (TRel t w0 w1.heap.size pos acc wr) ∧ Y.length = n ∧ pos ≤ t.size ∧ next ≤ 2000 ∧ s5 = .int .i64 (next : Int) ∧ s6 = .int .i64 0)
  case atStart => exact ⟨0, [], P, 1, [], HST, HR0, rfl, Nat.zero_le _, by decide, rfl, rfl⟩
  case round =>
    obtain ⟨pos, C, Y, next, acc, HA, HR, hn, hps, hnx0, rfl, rfl⟩ := hrel
    have hal := HA.out.2.1
    have hit := HR.out.2.1
    have hsz := (Array.getElem?_eq_some_iff.1 hit).1
    clear HST HR0
    by_cases hp : pos < t.size
    · have hnx : ∀ ty, (Instr.next (.pointer (some ⟨w1.heap.size, 0, none⟩)) true ty).run Tryd.prog wr = _ := fun ty => Lib.run_next_any_at wr w1.heap.size t pos ty hit hp
      obtain ⟨hI, -, hbw⟩ := HR.out
      obtain ⟨hwd1, hwd2⟩ := width_in t pos hp
      have hr := Lib.rune_le t pos
      have hI2 := hI.iterAt hit (pos + (Utf8.decode t pos).2)
      have hit2 := Lib.iterAt_heap wr w1.heap.size t pos (pos + (Utf8.decode t pos).2) hit
      have hbw2 := Lib.below_iterAt hbw (k := w1.heap.size) (by omega) t (pos + (Utf8.decode t pos).2)
      have hsz2 : w0.heap.size ≤ (wr.iterAt w1.heap.size t (pos + (Utf8.decode t pos).2)).heap.size := by rw [Lib.iterAt_size]; omega
      have hR2 : TRel t w0 w1.heap.size (pos + (Utf8.decode t pos).2) acc (wr.iterAt w1.heap.size t (pos + (Utf8.decode t pos).2)) := ⟨hI2, hit2, hbw2⟩
      obtain ⟨y, Y2, hY, hy1, hy2, -⟩ := HA.out.1.next hp
      subst hY
      simp only [List.length_cons] at hn
      have HR2 := Lib.hid hR2
      have HY1 := Lib.hid hy1
      have HY2 := Lib.hid hy2
      clear hI hbw hit hR2 hy1 hy2 HR
      by_cases hlt : pos < next
      · have hltz : (pos : Int) < (next : Int) := by omega
        have hA2 := HA.out.skip HPC.out hlt
        rw [HY2.out] at hA2
        have HA2 := Lib.hid hA2
        clear hI2 hit2 hbw2 hA2
        go_wp2_with fail
        go_roundg Y2.length
        case measure => omega
        case rel => exact ⟨_, _, Y2, next, acc, HA2, HR2, rfl, by omega, hnx0, rfl, rfl⟩
      · have hltz : ¬ (pos : Int) < (next : Int) := by omega
        obtain ⟨r, hrr⟩ : ∃ r, (Utf8.decode t pos).1 = r := ⟨_, rfl⟩
        have hyr : y.1 = r := by rw [HY1.out, hrr]
        rw [hrr] at hnx hr
        have HYR := Lib.hid hyr
        clear hrr hyr HY1
        by_cases h34 : r = 34
        · have t1 : ((r : Int) == 34) = true := by rw [h34]; rfl
          have hq := HA.out.quote HP.out hlt (by rw [HYR.out, h34])
          have hpz : ((pos : Int) ≤ (t.size : Int)) := by omega
          have cV := fun w hT => valid_any (t.extract 0 pos) w (by have := Lib.size_eq (t.extract 0 pos); rw [(HA.out.1.part HP.out).1] at this; have h3 := HA.out.1.2.2.1; omega) hT
          rcases hq with ⟨hv, hpos, Rs, k, hZ, hacc, hcnt, hfl⟩ | ⟨hv, hpos, hZ⟩
          · have hp0 : ((pos : Int) == 0) = false := beq_eq_false_iff_ne.2 (by omega)
            obtain ⟨-, -, hT2⟩ := HE.out _ hbw2
            have cS := fun w h hb => bString w0.heap.size w0.heap.size acc w h hb
            have cN := fun w => count_any ⟨acc.toArray⟩ w (by show acc.toArray.size < _; rw [List.size_toArray]; omega)
            rw [runeCount_eq] at cN
            simp only [hcnt] at cN
            have HZ := Lib.hid hZ
            have HAC := Lib.hid hacc
            have HFL := Lib.hid hfl
            simp only [hv] at cV
            clear hv hZ hacc hcnt hfl h34 HR2 hit2
            go_wp2_with fail
            refine (cV _ hT2).mono ?_
            rintro e wa ⟨rfl, ba⟩
            have hIa := builder_later hI2 ba
            have hbwa := hbw2.trans (ba.mono hsz2)
            clear cV hI2 hbw2 ba hT2
            go_wp2_with fail
            refine (cS _ hIa hbwa.size).mono ?_
            rintro e wb ⟨rfl, hIb, bb, -⟩
            have hbwb := hbwa.trans bb
            clear hIa hbwa bb
            go_wp2_with fail
            refine (cN _).mono ?_
            rintro e wc ⟨rfl, bc⟩
            have hIc := builder_later hIb bc
            have hbwc := hbwb.trans (bc.mono hbwb.size)
            clear hIb hbwb bc cN
            by_cases h100 : Rs.length ≤ 100
            · have h100z : ¬ (100 : Int) < (Rs.length : Int) := by omega
              go_wp2_with fail
              refine (cS _ hIc hbwc.size).mono ?_
              rintro e wd ⟨rfl, -, bd, -⟩
              obtain ⟨⟨-, z0, z1, z2, z3, f0, f1, f2, f3⟩, hbz, -⟩ := HE.out _ (hbwc.trans bd)
              clear hIc hbwc bd cS
              have hfin := HS.out Rs k pos HZ.out h100 HFL.out
              rw [← HAC.out] at hfin
              have HF := Lib.hid hfin
              clear hfin
              go_wp2_with fail
              rw [Exit.noGoto_ret]
              exact bodyPost_ret (v := .tuple #[T4 2 ⟨acc.toArray⟩ 0 0, .int .i64 ((pos : Int) + 1)]) (by simp [results, Tryd.results43, go_sem, z0, z1, z2, z3]) rfl ⟨by rw [← HO.out, HF.out], below_four hbz (Nat.le_refl _) _ _ _ _⟩
            · have h100z : (100 : Int) < (Rs.length : Int) := by omega
              obtain ⟨⟨-, z0, z1, z2, z3, f0, f1, f2, f3⟩, hbz, -⟩ := HE.out _ hbwc
              have hfin := HL.out Rs k HZ.out h100
              have HF := Lib.hid hfin
              clear hfin hIc hbwc cS
              go_wp2_with fail
              rw [Exit.noGoto_ret]
              exact bodyPost_ret (v := .tuple #[T4 0 ⟨#[]⟩ 0 0, .int .i64 0]) (by simp [results, Tryd.results43, go_sem, z0, z1, z2, z3]) rfl ⟨by rw [← HO.out, HF.out], below_four hbz (Nat.le_refl _) _ _ _ _⟩
          · have hfin := HN.out hZ
            have HF := Lib.hid hfin
            obtain ⟨-, -, hT2⟩ := HE.out _ hbw2
            simp only [hv] at cV
            clear hv hZ hfin h34 HR2 hit2 hI2
            have hp0 : ((pos : Int) == 0) = false := beq_eq_false_iff_ne.2 (by omega)
            go_wp2_with fail
            refine (cV _ hT2).mono ?_
            rintro e wa ⟨rfl, ba⟩
            obtain ⟨⟨-, z0, z1, z2, z3, f0, f1, f2, f3⟩, hbz, -⟩ := HE.out _ (hbw2.trans (ba.mono hsz2))
            clear cV hbw2 ba hT2
            go_wp2_with fail
            rw [Exit.noGoto_ret]
            exact bodyPost_ret (v := .tuple #[T4 0 ⟨#[]⟩ 0 0, .int .i64 0]) (by simp [results, Tryd.results43, go_sem, z0, z1, z2, z3]) rfl ⟨by rw [← HO.out, HF.out], below_four hbz (Nat.le_refl _) _ _ _ _⟩
        · have t1 : ((r : Int) == 34) = false := beq_eq_false_iff_ne.2 (by omega)
          have cC := fun w => control_any r w
          by_cases hc : Ctrl r
          · simp only [hc, decide_true] at cC
            have hfin := HN.out (HA.out.ctrl HPC.out hlt (by rw [HYR.out]; exact hc))
            have HF := Lib.hid hfin
            obtain ⟨⟨-, z0, z1, z2, z3, f0, f1, f2, f3⟩, hbz, -⟩ := HE.out _ hbw2
            clear hfin hc HR2 hit2 hI2 hbw2
            go_wp2_with fail
            refine (cC _).mono ?_
            rintro e wa ⟨rfl, rfl⟩
            go_wp2_with fail
            rw [Exit.noGoto_ret]
            exact bodyPost_ret (v := .tuple #[T4 0 ⟨#[]⟩ 0 0, .int .i64 0]) (by simp [results, Tryd.results43, go_sem, z0, z1, z2, z3]) rfl ⟨by rw [← HO.out, HF.out], below_four hbz (Nat.le_refl _) _ _ _ _⟩
          · simp only [hc, decide_false] at cC
            by_cases h92 : r = 92
            · have t2 : ((r : Int) == 92) = true := by rw [h92]; rfl
              obtain ⟨hl92, hY2c⟩ := head_asc (l := t.data.toList.drop pos) (x := y) (R := Y2) HA.out.1.2.1 (by rw [HYR.out]; omega)
              rw [HYR.out, h92] at hl92
              have hxt : (t.extract pos t.size).data.toList = 92 :: flat Y2 := by rw [tailList, hl92]; rfl
              have cE := fun w => escaped_any (t.extract pos t.size) (flat Y2) w (by have := Lib.size_eq (t.extract pos t.size); rw [tailList, List.length_drop, size_list] at this; omega) hxt
              rw [← esc_bytes, hY2c] at cE
              have hpz : ((pos : Int) ≤ (t.size : Int)) := by omega
              cases he : escF Y2 with
              | none =>
                rw [he] at cE
                unfold escV at cE
                have hfin := HN.out (HA.out.noEsc HPC.out hlt (by rw [HYR.out, h92]) he)
                have HF := Lib.hid hfin
                clear hfin hc HR2 hit2 hI2 he hl92 hY2c hxt h92
                go_wp2_with fail
                refine (cC _).mono ?_
                rintro e wa ⟨rfl, rfl⟩
                go_wp2_with fail
                refine (cE _).mono ?_
                rintro e wb ⟨rfl, bb⟩
                obtain ⟨⟨-, z0, z1, z2, z3, f0, f1, f2, f3⟩, hbz, -⟩ := HE.out _ (hbw2.trans (bb.mono hsz2))
                clear bb hbw2 cE
                go_wp2_with fail
                rw [Exit.noGoto_ret]
                exact bodyPost_ret (v := .tuple #[T4 0 ⟨#[]⟩ 0 0, .int .i64 0]) (by simp [results, Tryd.results43, go_sem, z0, z1, z2, z3]) rfl ⟨by rw [← HO.out, HF.out], below_four hbz (Nat.le_refl _) _ _ _ _⟩
              | some q =>
                obtain ⟨q, m⟩ := q
                rw [he] at cE
                unfold escV at cE
                dsimp only at cE
                obtain ⟨em1, em2, em3, em4, em5⟩ := escF_len he
                have hA2 := HA.out.esc HPC.out hlt (by rw [HYR.out, h92]) he
                rw [HY2.out] at hA2
                have hYl : Y2.length ≤ 1000 := by
                  have e1 := flat_len (fun z hz => HA.out.1.fitY HPC.out z (by simp [hz]) : ∀ z ∈ Y2, Fit z)
                  have e2 := congrArg List.length hl92
                  rw [List.length_drop, size_list, List.length_cons] at e2
                  omega
                have HA2 := Lib.hid hA2
                have hm0 : (((m : Int) + 1) == 0) = false := beq_eq_false_iff_ne.2 (by omega)
                clear hc HR2 he hl92 hY2c hxt h92 hA2 em3 em4
                go_wp2_with fail
                refine (cC _).mono ?_
                rintro e wa ⟨rfl, rfl⟩
                go_wp2_with fail
                refine (cE _).mono ?_
                rintro e wb ⟨rfl, bb⟩
                have hI3 := builder_later hI2 bb
                have hit3 := (bb.block w1.heap.size (Array.getElem?_eq_some_iff.1 hit2).1).trans hit2
                have hbw3 := hbw2.trans (bb.mono hsz2)
                have cW := fun w h hb => bWriteRune w0.heap.size w0.heap.size (Lib.byteCells acc) (q : Int) (by omega) (by omega) w h (by rw [Lib.byteCells_length]; omega) hb
                clear hI2 hit2 hbw2 bb cE cC
                go_wp2_with fail
                refine (cW _ hI3 hbw3.size).mono ?_
                rintro e wc ⟨rfl, h4, b4, k4⟩
                have hit4 := k4.iter hit3 (by omega)
                rw [← Lib.byteCells_encodeRune, ← Lib.byteCells_append] at h4
                have hR4 : TRel t w0 w1.heap.size (pos + (Utf8.decode t pos).2) (acc ++ Lib.encodeRune (q : Int)) wc := ⟨Or.inr h4, hit4, hbw3.trans b4⟩
                have HR4 := Lib.hid hR4
                clear cW hI3 hit3 hbw3 h4 b4 k4 hit4 hR4
                go_wp2_with fail
                go_roundg Y2.length
                case measure => omega
                case rel => exact ⟨_, _, Y2, pos + (m + 1), _, HA2, HR4, rfl, by omega, by omega, by go_num, rfl⟩
            · have t2 : ((r : Int) == 92) = false := beq_eq_false_iff_ne.2 (by omega)
              have hA2 := HA.out.plain HPC.out hlt (by rw [HYR.out]; exact h34) (by rw [HYR.out]; exact h92) (by rw [HYR.out]; exact hc)
              rw [HY2.out, HYR.out] at hA2
              have HA2 := Lib.hid hA2
              have cW := fun w h hb => bWriteRune w0.heap.size w0.heap.size (Lib.byteCells acc) (r : Int) (by omega) (by omega) w h (by rw [Lib.byteCells_length]; omega) hb
              clear hA2 hc HR2 h34 h92
              go_wp2_with fail
              refine (cC _).mono ?_
              rintro e wa ⟨rfl, rfl⟩
              go_wp2_with fail
              refine (cW _ hI2 hsz2).mono ?_
              rintro e wc ⟨rfl, h4, b4, k4⟩
              have hit4 := k4.iter hit2 (by omega)
              rw [← Lib.byteCells_encodeRune, ← Lib.byteCells_append] at h4
              have hR4 : TRel t w0 w1.heap.size (pos + (Utf8.decode t pos).2) (acc ++ Lib.encodeRune (r : Int)) wc := ⟨Or.inr h4, hit4, hbw2.trans b4⟩
              have HR4 := Lib.hid hR4
              clear cW hI2 hit2 hbw2 h4 b4 k4 hit4 hR4 cC
              go_wp2_with fail
              go_roundg Y2.length
              case measure => omega
              case rel => exact ⟨_, _, Y2, next, _, HA2, HR4, rfl, by omega, hnx0, rfl, rfl⟩
    · have hnx : ∀ ty, (Instr.next (.pointer (some ⟨w1.heap.size, 0, none⟩)) true ty).run Tryd.prog wr = _ := fun ty => Lib.run_next_end_at wr w1.heap.size t pos ty hit hp
      obtain ⟨hY, -, -⟩ := HA.out.1.done hp
      subst hY
      have hfin := HN.out HA.out.over
      have HF := Lib.hid hfin
      obtain ⟨⟨-, z0, z1, z2, z3, f0, f1, f2, f3⟩, hbz, -⟩ := HE.out _ HR.out.2.2
      clear hfin hit
      go_wp2_with fail
      rw [Exit.noGoto_ret]
      exact bodyPost_ret (v := .tuple #[T4 0 ⟨#[]⟩ 0 0, .int .i64 0]) (by simp [results, Tryd.results43, go_sem, z0, z1, z2, z3]) rfl ⟨by rw [← HO.out, HF.out], below_four hbz (Nat.le_refl _) _ _ _ _⟩
end Go.Proofs.YtbeeeakcjeibgaaDoor
