/- The statement SumTurns: where up to 32 bits in a row are turned in bytes (1 to 2^20 of them), the sums are the same just where the bytes are. Conditions: none. -/
import Derived.Test.YtmmclglbjjfcgaaSumFrame
import Derived.StillTailTactics
import Derived.RegionTactic
import Derived.Deep.AppendLies
namespace Go.Proofs.Ytmmclglbjjfcgaa
open Go.ChangeShapes Go.WideShapes Go.ChangeAt Go.RowKit

theorem flip_w {f : FuncId} {xs : Array Value} {v : Value} {w : World} (h : Calls Try.prog f xs w fun e w' => e = .returned v ∧ w = w') : Calls Try.prog f xs w fun e w' => e = .returned v ∧ w' = w :=
  h.mono fun _ _ ⟨he, hw⟩ => ⟨he, hw.symm⟩
theorem txt_no {C L : List UInt8} (h : C ≠ L) : ((⟨C.toArray⟩ : ByteArray).toList == (⟨L.toArray⟩ : ByteArray).toList) = false := by
  rw [beq_eq_false_iff_ne, ByteArray.toList_eq, ByteArray.toList_eq]
  exact h
def TurnRel (w wr : World) (row : BitVec 32) (L : List UInt8) (k i g cap : Nat) (C : List UInt8) : Prop :=
  Turned row L k i C ∧ wr.ownsRow w.heap.size 5 1 (.slice (some ⟨g, 0, none⟩) L.length cap) L.length (Lib.byteCells C) ∧ Below w.heap.size w wr

theorem row_bit (row : BitVec 32) (j : Nat) : (bits .and .u32 (Z row / 2 ^ j) 1 == 1) = row.getLsbD j := by
  have h : Z row / 2 ^ j = Z (row >>> j) := by
    unfold Z; rw [BitVec.toNat_ushiftRight, Nat.shiftRight_eq_div_pow]; simp
  rw [h, and_one, BitVec.getLsbD_ushiftRight, Nat.add_zero]
  cases row.getLsbD j <;> rfl
theorem own_cell {w : World} {B : Nat} {e : TypeId} {g n cap : Nat} {C : List UInt8} (h : w.ownsRow B e 1 (.slice (some ⟨g, 0, none⟩) n cap) n (Lib.byteCells C)) (p : Nat) (hp : p < n) (hn : C.length = n) : w.cell? ⟨g, p, none⟩ = some (.int .u8 ((C.getD p 0).toNat : Int)) := by
  rw [h.cellAt p (by omega)]
  unfold Lib.byteCells
  rw [List.getElem?_map, List.getElem?_eq_getElem (by omega), List.getD_eq_getElem?_getD, List.getElem?_eq_getElem (by omega)]
  rfl

theorem turn_byte (c : UInt8) (q : Nat) (hq : q < 8) : bits .xor .u8 (c.toNat : Int) ((2 : Int) ^ q % 256) = ((c ^^^ UInt8.ofNat (2 ^ q)).toNat : Int) := by
  have hp : 2 ^ q < 256 := Nat.lt_of_lt_of_le (Nat.pow_lt_pow_right (by decide) hq) (by decide)
  have e : (2 : Int) ^ q % 256 = ((2 ^ q : Nat) : Int) := by
    have h : ((2 ^ q : Nat) : Int) = (2 : Int) ^ q := by simp
    rw [← h]; exact Int.emod_eq_of_lt (Int.natCast_nonneg _) (by omega)
  have e2 : (UInt8.ofNat (2 ^ q)).toNat = 2 ^ q := by simp; omega
  rw [e, u8_xor_nat _ _ c.toNat_lt hp, UInt8.toNat_xor, e2]
theorem turn_round {w wr : World} {row : BitVec 32} {L C : List UInt8} {k j g cap : Nat} (hg : w.heap.size ≤ g) (h : TurnRel w wr row L k j g cap C) (hj : j < 32) (hp : k + j < 8 * L.length) (hb : row.getLsbD j = true) :
    ∃ C', TurnRel w (wr.setCell ⟨g, (k + j) / 8, none⟩ (.int .u8 (bits .xor .u8 ((C.getD ((k + j) / 8) 0).toNat : Int) ((2 : Int) ^ ((k + j) % 8) % 256)))) row L k (j + 1) g cap C' := by
  obtain ⟨hT, ho, hbl⟩ := h
  have hl := hT.len
  have hjl : (k + j) / 8 < C.length := by omega
  refine ⟨_, hT.yes hj hp hb rfl rfl hjl, ?_, hbl.setCell hg _⟩
  have h2 := (World.ownsRow.stored ho ((k + j) / 8) (.int .u8 ((C[(k + j) / 8] ^^^ UInt8.ofNat (2 ^ ((k + j) % 8))).toNat : Int))).1
  have e1 : C.getD ((k + j) / 8) 0 = C[(k + j) / 8] := by rw [List.getD_eq_getElem?_getD, List.getElem?_eq_getElem hjl]; rfl
  have e2 : Lib.byteCells (C.set ((k + j) / 8) (C[(k + j) / 8] ^^^ UInt8.ofNat (2 ^ ((k + j) % 8)))) = (Lib.byteCells C).set ((k + j) / 8) (.int .u8 ((C[(k + j) / 8] ^^^ UInt8.ofNat (2 ^ ((k + j) % 8))).toNat : Int)) := by
    unfold Lib.byteCells; rw [List.map_set]
  rw [e1, turn_byte _ _ (by omega), e2]
  exact h2

set_option maxHeartbeats 1000000 in
theorem sumturns_mid (A : Option Addr) (L : List UInt8) (ca : Nat) (v : Int) (row : BitVec 32) (w : World) (hla : L.length ≤ ca) (hA : Bs w A L) (hnil : A = none → ca = 0) (hv0 : -9223372036854775808 ≤ v) (hv1 : v ≤ 9223372036854775807) (h1 : 1 ≤ L.length) (h2 : L.length ≤ 1048576) :
    Calls Try.prog 5 #[.slice A L.length ca, .int .i64 v, .int .u32 (Z row)] w fun e w' => e = .returned (.bool true) ∧ Below w.heap.size w w' := by
  have hby := bytes_any A L ca w (by omega) hA hnil
  obtain ⟨k, hk, cP⟩ := place_nat v (8 * L.length) hv0 hv1 (by omega) (by omega)
  simp only [Int.natCast_mul, Int.cast_ofNat_Int] at cP
  have r0 := Z_lo row
  have r1 := Z_hi row
  have hn0 : ((L.length : Int) == 0) = false := by simp; intro h; rw [h] at h1; exact absurd h1 (by decide)
  clear hnil
  go_enter Try.func5, Try.ntmps5
  go_wp2_with fail
  refine hby.mono ?_
  rintro e w1 ⟨A1, cap1, rfl, hB1, hcap1, hown0, hb1⟩
  have hown : w1.ownsRow w.heap.size 5 1 (.slice A1 L.length cap1) L.length (Lib.byteCells L) := hown0
  clear hby hcap1 hown0
  obtain ⟨g, cap2, hform, hgw, _⟩ := World.ownsRow.form hown (by omega)
  injection hform with hA1 _ hcc
  subst hA1
  subst hcc
  clear hB1
  go_wp2_with fail
  have cP1 := cP w1
  clear cP
  refine cP1.mono ?_
  rintro e w2 ⟨rfl, rfl⟩
  clear cP1
  go_wp2_with fail
  go_loopw [9] (fun i wr => ∃ (j : Nat) (C : List UInt8), j ≤ 32 ∧ i = .int .i64 j ∧ TurnRel w wr row L k j g cap1 C) (fun i _ => 32 - (intOf i).toNat)
  case atStart => exact ⟨0, L, by omega, rfl, Turned.start row L k, hown, hb1⟩
  case round =>
    obtain ⟨j, C, hj, rfl, hT, ho, hbl⟩ := hrel
    have hCl := hT.len
    by_cases hlt : j < 32 ∧ k + j < 8 * L.length
    · obtain ⟨hlt1, hlt2⟩ := hlt
      have hbit := row_bit row j
      have hp : (k + j) / 8 < L.length := by omega
      have hcell := own_cell ho ((k + j) / 8) hp hCl
      have hfr := World.ownsRow.frozenAt ho ((k + j) / 8)
      have HT := Lib.hid hT
      have HCL := Lib.hid hCl
      have HO := Lib.hid ho
      have HBL := Lib.hid hbl
      clear hT hCl ho hbl
      cases hb : row.getLsbD j
      · rw [hb] at hbit
        have HB := Lib.hid hb
        clear hb
        go_wp2_with fail
        go_roundw
        case rel => exact ⟨j + 1, C, by omega, by go_num, HT.out.no HB.out, HO.out, HBL.out⟩
        case measure => simp [intOf]; omega
      · rw [hb] at hbit
        have HB := Lib.hid hb
        clear hb
        obtain ⟨C', hC'⟩ := turn_round hgw ⟨HT.out, HO.out, HBL.out⟩ hlt1 hlt2 HB.out
        have HC' := Lib.hid hC'
        clear hC'
        generalize C.getD ((k + j) / 8) 0 = c at *
        go_wp2_with fail
        go_roundw
        case rel => exact ⟨j + 1, C', by omega, by go_num, HC'.out⟩
        case measure => simp [intOf]; omega
    · have hB2 := hA.below hbl
      have hB3 : Bs wr (some ⟨g, 0, none⟩) C := fun _ => ⟨g, 0, rfl, fun i hi => by rw [Nat.zero_add]; exact own_cell ho i (by omega) hCl⟩
      have haw := awake_any wr.drew
      have HBL := Lib.hid hbl
      have htold := hT.told
      have c1 := flip_w (of_any (some ⟨g, 0, none⟩) C cap1 wr.drew (by omega) hB3)
      have c2 := flip_w (of_any A L ca wr.drew (by omega) hB2)
      have k1 := run_str_of (P := Try.prog) (w := wr.drew) 23 9 5 cap1 Try.underlying23 Try.underlying5 Try.underlying9 hB3
      have k2 := run_str_of (P := Try.prog) (w := wr.drew) 23 9 5 ca Try.underlying23 Try.underlying5 Try.underlying9 hB2
      rw [hCl] at c1 k1
      clear hB2 hB3 hT ho hbl hA hCl hown hb1
      by_cases hCL : C = L
      · subst hCL
        clear htold
        generalize (⟨C.toArray⟩ : ByteArray) = txt at *
        generalize Z (moreB 0#32 C) = R at *
        go_wp2_with fail
        all_goals
          refine wp_region_still_tail 12 (by kernel_rfl) (by kernel_rfl) ?_
          simp only [List.take_succ_cons, List.take_zero, List.drop_succ_cons, List.drop_zero]
          repeat still_step
          still_call c1
          repeat still_step
          still_call c2
          repeat still_step
          refine wpStill_nil ?_
          change wpList _ _ _ _ _ wr.drew
          go_wp2_with fail
          refine haw.mono ?_
          rintro e w2 ⟨rfl, hb2⟩
          go_wp2
          go_ret
          exact ⟨rfl, HBL.out.drew.trans (hb2.mono HBL.out.size)⟩
      · have hne : Z (moreB 0#32 C) ≠ Z (moreB 0#32 L) := fun h => hCL (htold.1 (Z_inj h))
        have htx := txt_no hCL
        clear htold hCL
        generalize (⟨C.toArray⟩ : ByteArray) = txt1 at *
        generalize (⟨L.toArray⟩ : ByteArray) = txt2 at *
        generalize Z (moreB 0#32 C) = R1 at *
        generalize Z (moreB 0#32 L) = R2 at *
        have hz : (R1 == R2) = false := by simpa using hne
        clear hne
        go_wp2_with fail
        all_goals
          refine wp_region_still_tail 12 (by kernel_rfl) (by kernel_rfl) ?_
          simp only [List.take_succ_cons, List.take_zero, List.drop_succ_cons, List.drop_zero]
          repeat still_step
          still_call c1
          repeat still_step
          still_call c2
          repeat still_step
          refine wpStill_nil ?_
          change wpList _ _ _ _ _ wr.drew
          go_wp2_with fail
          refine haw.mono ?_
          rintro e w2 ⟨rfl, hb2⟩
          go_wp2
          go_ret
          exact ⟨rfl, HBL.out.drew.trans (hb2.mono HBL.out.size)⟩

theorem sumturns_none (A : Option Addr) (ca : Nat) (v : Int) (row : BitVec 32) (w : World) :
    Calls Try.prog 5 #[.slice A 0 ca, .int .i64 v, .int .u32 (Z row)] w fun e w' => e = .returned (.bool true) ∧ Below w.heap.size w w' := by
  have haw := awake_any w
  go_enter Try.func5, Try.ntmps5
  go_wp2_with fail
  refine haw.mono ?_
  rintro e w2 ⟨rfl, hb2⟩
  go_wp2
  go_ret
  exact ⟨rfl, hb2⟩
theorem sumturns_great (A : Option Addr) (n ca : Nat) (v : Int) (row : BitVec 32) (w : World) (h : 1048576 < n) :
    Calls Try.prog 5 #[.slice A n ca, .int .i64 v, .int .u32 (Z row)] w fun e w' => e = .returned (.bool true) ∧ Below w.heap.size w w' := by
  have haw := awake_any w
  have hn0 : ((n : Int) == 0) = false := by simp; omega
  have hgt : decide (1048576 < (n : Int)) = true := by simp; omega
  go_enter Try.func5, Try.ntmps5
  go_wp2_with fail
  refine haw.mono ?_
  rintro e w2 ⟨rfl, hb2⟩
  go_wp2
  go_ret
  exact ⟨rfl, hb2⟩
theorem sumturns_walk (A : Option Addr) (L : List UInt8) (ca : Nat) (v : Int) (row : BitVec 32) (w : World) (hla : L.length ≤ ca) (_ : ca ≤ 140737488351232) (hA : Bs w A L) (hnil : A = none → ca = 0) (hv0 : -9223372036854775808 ≤ v) (hv1 : v ≤ 9223372036854775807) :
    Calls Try.prog 5 #[.slice A L.length ca, .int .i64 v, .int .u32 (Z row)] w fun e w' => e = .returned (.bool true) ∧ Below w.heap.size w w' := by
  by_cases h0 : L.length = 0
  · rw [h0]; exact sumturns_none A ca v row w
  · by_cases h1 : L.length ≤ 1048576
    · exact sumturns_mid A L ca v row w hla hA hnil hv0 hv1 (by omega) h1
    · exact sumturns_great A L.length ca v row w (by omega)
set_option maxRecDepth 100000 in
theorem sumturns_lifted (os : Os) (started : os.Started) (H : Type) (enc : TypeId × Value → H) :
    ReturnsInHanded {} Try.checked os 5 .any (Rows.sumTurnsSpec.pre6 enc Try.prog Try.f5 Rows.sumTurnsRow.domain false) (Rows.sumTurnsSpec.post enc Try.prog Try.f5 false true false false) := by
  refine returnsInHanded_of_change_sized (C := Try.checked) own started (by kernel_rfl) Try.func5
    (ChangeSpec.witness6 (enc := enc) (C := Try.checked) false ⟨#[], #[.slice none 0 0, .int .i64 0, .int .u32 0], []⟩ 8 (by kernel_rfl) (by kernel_rfl) (by kernel_rfl) (by kernel_rfl)) ?_
  intro W base args ds gs before hval0 hW _ hsz0 _
  have hsz : (DataW.weightsEach Try.prog (Try.f5.params.toList ++ Rows.sumTurnsSpec.plain.varTypes Try.prog) (ds ++ gs)).all (· ≤ reachBytes) = true := hsz0
  have hval : ∀ (j : Nat) t v, Try.f5.params[j]? = some t → args[j]? = some v → Value.okWide Try.prog W .any base t v := hval0
  have hW' := hW
  obtain ⟨p, q, hA0, hV, rfl, _, _⟩ := hW
  have hA : DataW.TrodAll enc Try.prog W 0 (fun _ => true) true Try.f5.params.toList args.toList ds p := hA0
  rw [Try.params5] at hA hval hsz
  obtain ⟨v0, v1, v2, d0, d1, d2, p0, p1, p2, rfl, rfl, rfl, h0, h1, h2⟩ := trodAll_three hA
  obtain ⟨rfl, rfl⟩ := trodVars_none hV
  simp only [List.append_nil] at hW'
  have hlt0 : ∀ x ∈ p0, x.block < W.heap.size := fun x hx => hW'.lt x (by simp [hx])
  have h0k := h0
  obtain ⟨A0, L0, c0, rfl, lc0, cm0, B0, N0⟩ := open_bytes Try.underlying23 Try.underlying5 (by kernel_rfl) (hval 0 23 v0 rfl rfl) h0 (fun elems spare e => by
    subst e
    have := sized_slice hsz (j := 0) (t := 23) (e := 5) rfl rfl Try.underlying23
    rwa [show Try.prog.bytesOf 5 = 1 by kernel_rfl] at this)
  obtain ⟨x1, rfl, rfl, rfl, wx1⟩ := open_int Try.underlying3 (hval 1 3 v1 rfl rfl) h1
  obtain ⟨x2, rfl, rfl, rfl, wx2⟩ := open_int Try.underlying22 (hval 2 22 v2 rfl rfl) h2
  obtain ⟨X2, rfl⟩ := Z_of x2 (bounds_u32 wx2).1 (bounds_u32 wx2).2
  refine (sumturns_walk A0 L0 c0 x1 X2 W lc0 cm0 B0 N0 (bounds_i64 wx1).1 (bounds_i64 wx1).2).mono fun e W' ⟨he, hb⟩ => ?_
  subst he
  exact ⟨_, rfl, _, _, _, [], _, [], hW', trodAll_mk1 (shut_bool Try.underlying4 _), trodAll_mk3 (Below.trod laidOut (by kernel_rfl) (of_decide_eq_true (by kernel_rfl)) h0k hb hlt0) (shut_int Try.underlying3 wx1) (shut_int Try.underlying22 wx2), rfl, hb.frame _, fun h => by cases h⟩

theorem sumturns_holds : Rows.SumTurnsSaid :=
  OpenClaim.holds_of_wide 5 Try.f5 rfl rfl rfl rfl rfl rfl rfl ⟨rfl, rfl, rfl, rfl, rfl⟩ rfl rfl rfl rfl rfl (by kernel_rfl) Try.func5 (by kernel_rfl)
    (of_decide_eq_true (by kernel_rfl)) (by unfold Func.isWrapper; first | (rw [if_pos (by decide +kernel)]; kernel_rfl) | (rw [if_neg (by decide +kernel)]; exact ⟨rfl, rfl⟩))
    (fun os started H enc _ => sumturns_lifted os started H enc)
end Go.Proofs.Ytmmclglbjjfcgaa
