/- Several texts in one: RefReader, RefRInt, RefRMore, RefRText. -/
import Derived.Test.YtindkpfmflcibaaGreatDoorWB
import Derived.StillTailTactics
import Derived.Deep.QuietTactic
import Derived.BigQuiet
namespace Go.Proofs.YtindkpfmflcibaaGreatDoor
/- The document's own reader in memory. Contracts of its Left and End. -/
section
open Go.RowKit

/-- The document's reader lies in block g, as it stands. -/
def RB (w : World) (g : Nat) (A : Option Addr) (C : List UInt8) (cap at_ : Nat) (bad : Bool) : Prop :=
  w.heap[g]? = some (.cells #[.slice A C.length cap, .int .i64 (at_ : Int), .bool bad] 63 (0, 0)) ∧ Bs w A C ∧ C.length ≤ cap ∧ C.length ≤ 140737488355328 ∧ at_ ≤ C.length
section
variable {w w' : World} {g : Nat} {A : Option Addr} {C : List UInt8} {cap at_ : Nat} {bad : Bool}
theorem RB.lt (h : RB w g A C cap at_ bad) : g < w.heap.size := by
  obtain ⟨h, _⟩ := h
  rcases Nat.lt_or_ge g w.heap.size with hlt | hge
  · exact hlt
  · rw [Array.getElem?_eq_none hge] at h; cases h
theorem RB.apart (h : RB w g A C cap at_ bad) {b off : Nat} {c : Int} (hc : w.cell? ⟨b, off, none⟩ = some (.int .u8 c)) : b ≠ g := by
  rintro rfl
  obtain ⟨h, _⟩ := h
  rw [cell_of_row w b off _ _ _ h] at hc
  match off with
  | 0 => simp at hc
  | 1 => simp at hc
  | 2 => simp at hc
  | k + 3 => simp at hc
theorem RB.bytes (h : RB w g A C cap at_ bad) {A' : Option Addr} {L : List UInt8} (hB : Bs w A' L) (ho : Only g w w') : Bs w' A' L := fun h0 => by
  obtain ⟨b, off, e, hc⟩ := hB h0
  refine ⟨b, off, e, fun j hj => ?_⟩
  exact (World.cell?_of_block (w := w) (a := ⟨b, off + j, none⟩) (ho.block b (h.apart (hc j hj)))).trans (hc j hj)
theorem RB.drew (h : RB w g A C cap at_ bad) : RB w.drew g A C cap at_ bad := h
theorem RB.cells (h : RB w g A C cap at_ bad) : w.cell? ⟨g, 0, none⟩ = some (.slice A C.length cap) ∧ w.cell? ⟨g, 1, none⟩ = some (.int .i64 (at_ : Int)) ∧ w.cell? ⟨g, 2, none⟩ = some (.bool bad) ∧ w.frozen? ⟨g, 1, none⟩ = false ∧ w.frozen? ⟨g, 2, none⟩ = false := by
  obtain ⟨h4, _⟩ := h
  refine ⟨?_, ?_, ?_, ?_, ?_⟩
  · rw [cell_of_row w g 0 _ _ _ h4]; rfl
  · rw [cell_of_row w g 1 _ _ _ h4]; rfl
  · rw [cell_of_row w g 2 _ _ _ h4]; rfl
  · simp [World.frozen?, h4]
  · simp [World.frozen?, h4]
theorem RB.setAt (h : RB w g A C cap at_ bad) {n : Nat} (hn : n ≤ C.length) : RB (w.setCell ⟨g, 1, none⟩ (.int .i64 (n : Int))) g A C cap n bad := by
  have hb := h.bytes h.2.1 ((Only.refl g w).setCell 1 (.int .i64 (n : Int)))
  obtain ⟨h4, h5, h6, h7, h8⟩ := h
  exact ⟨by rw [heap_setCell_same w g 1 _ _ _ h4]; rfl, hb, h6, h7, hn⟩
theorem RB.setBad (h : RB w g A C cap at_ bad) : RB (w.setCell ⟨g, 2, none⟩ (.bool true)) g A C cap at_ true := by
  have hb := h.bytes h.2.1 ((Only.refl g w).setCell 2 (.bool true))
  obtain ⟨h4, h5, h6, h7, h8⟩ := h
  exact ⟨by rw [heap_setCell_same w g 2 _ _ _ h4]; rfl, hb, h6, h7, h8⟩
theorem RB.other (h : RB w g A C cap at_ bad) {M g' : Nat} {s : St} (hr : Rd M w g' s) (ho : Only g' w w') (hne : g ≠ g') : RB w' g A C cap at_ bad :=
  ⟨(ho.block g hne).trans h.1, h.2.1.only hr ho, h.2.2⟩
theorem Rd.otherR {N : Nat} {s : St} {g' : Nat} (hr : Rd N w g' s) (h : RB w g A C cap at_ bad) (ho : Only g w w') (hne : g' ≠ g) : Rd N w' g' s := by
  obtain ⟨h1, h2, h3, A', cap', h4, h5, h6⟩ := hr
  refine ⟨h1, h2, h3, A', cap', (ho.block g' hne).trans h4, h5, fun h0 => ?_⟩
  obtain ⟨b, off, e, hN, hc⟩ := h6 h0
  refine ⟨b, off, e, hN, fun j hj => ?_⟩
  exact (World.cell?_of_block (w := w) (a := ⟨b, off + j, none⟩) (ho.block b (h.apart (hc j hj)))).trans (hc j hj)
end

/-- The document's reader, by what is left to it. -/
def RR (w : World) (g : Nat) (s : St) : Prop := ∃ A C cap at_, RB w g A C cap at_ s.2 ∧ s.1 = if s.2 then [] else C.drop at_
section
variable {w w' : World} {g : Nat} {s : St}
theorem RR.dead {A : Option Addr} {C : List UInt8} {cap at_ : Nat} (h : RB w g A C cap at_ true) : RR w g ([], true) := ⟨A, C, cap, at_, h, rfl⟩
theorem RR.live {A : Option Addr} {C L : List UInt8} {cap at_ : Nat} (h : RB w g A C cap at_ false) (hL : L = C.drop at_) : RR w g (L, false) := ⟨A, C, cap, at_, h, hL⟩
theorem RR.drew (h : RR w g s) : RR w.drew g s := h
theorem RR.other (h : RR w g s) {M g' : Nat} {s' : St} (hr : Rd M w g' s') (ho : Only g' w w') (hne : g ≠ g') : RR w' g s := by
  obtain ⟨A, C, cap, at_, h1, h2⟩ := h
  exact ⟨A, C, cap, at_, h1.other hr ho hne, h2⟩
theorem Rd.otherRR {N g' : Nat} {s' : St} (hr : Rd N w g' s') (h : RR w g s) (ho : Only g w w') (hne : g' ≠ g) : Rd N w' g' s' := by
  obtain ⟨A, C, cap, at_, h1, h2⟩ := h
  exact hr.otherR h1 ho hne
end

/-- What a method of the document's reader leaves. -/
def LeftR (w : World) (g : Nat) (v : Value) (s : St) (e : Ending) (w' : World) : Prop := e = .returned v ∧ RR w' g s ∧ Only g w w'

theorem ret_boolR {a b : Bool} (h : a = b) : Ending.returned (.bool a) = .returned (.bool (!false && b)) := by rw [h]; rfl
/-- Nothing but draws. -/
def Still (w w' : World) : Prop := ∃ n, w' = w.drewN n
theorem RR.still {w w' : World} {g : Nat} {s : St} (h : RR w g s) (k : Still w w') : RR w' g s := by obtain ⟨n, rfl⟩ := k; exact h

theorem refleft_any (g : Nat) (s : St) (w : World) (h : RR w g s) :
    Calls Tryz.prog 28 #[.pointer (some ⟨g, 0, none⟩)] w fun e w' => e = .returned (.int .i64 (s.1.length : Int)) ∧ ∃ n, w' = w.drewN n := by
  obtain ⟨L, b⟩ := s
  obtain ⟨A, C, cap, at_, h1, h2⟩ := h
  obtain ⟨c0, c1, c2, f1, f2⟩ := h1.cells
  obtain ⟨_, _, hlc, hl, hat⟩ := h1
  simp only at h2 c2
  cases b with
  | true =>
    rw [if_pos rfl] at h2
    subst h2
    go_enter Tryz.func28, Tryz.ntmps28
    go_wp2
    go_ret
    exact ⟨rfl, 0, rfl⟩
  | false =>
    rw [if_neg (by decide)] at h2
    have hlen : L.length = C.length - at_ := by rw [h2, List.length_drop]
    have HL := Lib.hid hlen
    have hw1 : IntKind.i64.wrap ((C.length : Int) - (at_ : Int)) = (C.length : Int) - (at_ : Int) := IntWalk.i64_in _ (by omega)
    clear h2 hlen
    go_enter Tryz.func28, Tryz.ntmps28
    go_wp2_with fail
    go_quiet (fail)
    go_wp2_with fail
    go_ret
    exact ⟨ret_int (by rw [HL.out]; omega), _, rfl⟩
end
/- Contract of the document's own reader's Int. -/
section
open Go.RowKit

theorem Only.like {g : Nat} {a w1 w2 : World} (h : Only g a w1) (hh : w2.heap = w1.heap) (ho : w2.os = w1.os) (ht : w2.tape = w1.tape) (hp : w2.output = w1.output) : Only g a w2 :=
  ⟨ho.trans h.os, ht.trans h.tape, hp.trans h.output, by rw [hh]; exact h.size, fun k hk => by rw [hh]; exact h.block k hk⟩
/-- k bytes of L were read, they made x; the reader stands k further. -/
def RIRel (w : World) (g : Nat) (A : Option Addr) (C L : List UInt8) (cap at_ k x : Nat) (wr : World) : Prop :=
  IntRel L k x ∧ RB wr g A C cap (at_ + k) false ∧ Only g w wr
theorem shl_in {k m x : Nat} (hm : m * 2 ^ (7 * k) < 18446744073709551616) (hx : x + m * 2 ^ (7 * k) < 18446744073709551616) :
    IntKind.u64.wrap ((x : Int) + IntKind.u64.wrap ((m : Int) * 2 ^ (7 * k))) = ((x + m * 2 ^ (7 * k) : Nat) : Int) := by
  have e : ((m : Int) * 2 ^ (7 * k)) = ((m * 2 ^ (7 * k) : Nat) : Int) := by simp
  rw [e]
  generalize m * 2 ^ (7 * k) = q at *
  simp only [IntKind.wrap, IntKind.signed, IntKind.bits]
  simp
  omega

set_option maxHeartbeats 1000000 in
set_option maxRecDepth 100000 in
theorem refrint_at (g : Nat) (L : List UInt8) (s2 : St) (v : Int) (w : World) (A : Option Addr) (C : List UInt8) (cap at_ : Nat) (h : RB w g A C cap at_ false) (hL : L = C.drop at_) (hst : Hid (stI (L, false) = (v, s2))) :
    Calls Tryz.prog 42 #[.pointer (some ⟨g, 0, none⟩)] w (LeftR w g (.int .i64 v) s2) := by
  have hlc := h.2.2.1
  have hl := h.2.2.2.1
  have hat := h.2.2.2.2
  have hlen : L.length = C.length - at_ := by rw [hL, List.length_drop]
  have HLL := Lib.hid hlen
  have HCL := Lib.hid hL
  have HRB := Lib.hid h
  clear h hL hlen
  go_enter Tryz.func42, Tryz.ntmps42
  go_wp2_with fail
  go_loopw [3, 4] (fun u i wr => ∃ k x : Nat, i = .int .i64 k ∧ u = .int .u64 (x : Int) ∧ RIRel w g A C L cap at_ k x wr) (fun _ i _ => 9 - (intOf i).toNat)
  case atStart => exact ⟨0, 0, rfl, rfl, ⟨Nat.zero_le _, by decide, by simp, by decide⟩, HRB.out, Only.refl _ _⟩
  case round =>
    obtain ⟨k, x, rfl, rfl, ⟨hk, hk9, hrd, hx⟩, hB, hO⟩ := hrel
    obtain ⟨c0, c1, c2, f1, f2⟩ := hB.cells
    have hbs := hB.2.1
    have HO := Lib.hid hO
    have HB := Lib.hid hB
    have hx63 := pow_63 hk9
    have hll := HLL.out
    clear hO hB
    simp only [Int.natCast_add] at c1
    by_cases hlt : k < L.length
    · have hac : at_ + k < C.length := by omega
      obtain ⟨ab, off, rfl, hc⟩ := hbs (by omega)
      have hck := hc (at_ + k) hac
      have hcb := byte_hi (C.getD (at_ + k) 0)
      have hCC : L.getD k 0 = C.getD (at_ + k) 0 := by rw [HCL.out, List.getD_eq_getElem?_getD, List.getD_eq_getElem?_getD, List.getElem?_drop]
      clear hc hbs
      generalize C.getD (at_ + k) 0 = c at *
      have HCC := Lib.hid hCC
      have HRD := Lib.hid hrd
      have HX := Lib.hid hx
      have HX63 := Lib.hid hx63
      clear hCC hrd hx hx63 hll
      have hi0 : (0 : Int) ≤ (at_ : Int) + (k : Int) := by omega
      have hi1 : (at_ : Int) + (k : Int) < (C.length : Int) := by omega
      have hi2 : ((at_ : Int) + (k : Int)).toNat = at_ + k := by omega
      have hi3 : decide ((C.length : Int) ≤ (at_ : Int) + (k : Int)) = false := by simp; omega
      have HRBn := Lib.hid (HB.out.setAt (n := at_ + (k + 1)) (by omega))
      have hats : ((at_ + (k + 1) : Nat) : Int) = (at_ : Int) + (k : Int) + 1 := by omega
      rw [hats] at HRBn
      clear hats
      by_cases hb1 : k = 9 ∧ 1 < c.toNat
      · have HN := Lib.hid (rd_wide hlt HCC.out HRD.out hb1)
        have HVS := Lib.hid (st_none HN.out hst.out)
        obtain ⟨rfl, hb1⟩ := hb1
        have e2 : decide ((1 : Int) < (c.toNat : Int)) = true := by simp; omega
        go_wp2_with fail
        go_quiet (fail)
        go_wp2_with fail
        go_quiet (fail)
        go_wp2_with fail
        go_ret
        exact ⟨by rw [HVS.out.1]; rfl, by rw [HVS.out.2]; exact RR.dead HRBn.out.setBad, ((HO.out.setCell 1 _).setCell 2 _).like rfl rfl rfl rfl⟩
      · by_cases hb2 : 128 ≤ c.toNat
        · have hk8 : k ≤ 8 := by omega
          have e1 : ((k : Int) == 9) = false := by simp; omega
          have e2 : decide ((c.toNat : Int) < 128) = false := by simp; omega
          have e3 : ((c.toNat : Int) == 0) = false := by simp; omega
          have HM := Lib.hid (rd_more hlt HCC.out HRD.out HX.out hk8 hb2)
          have hpow := room_pow (k := k) (m := c.toNat % 128) (by omega)
          have hm0 : (c.toNat : Int) % 128 = ((c.toNat % 128 : Nat) : Int) := by omega
          have HS := Lib.hid (shl_in (x := x) hpow (by have := HM.out.2.2.2; have := pow_63 HM.out.2.1; omega))
          generalize hq : c.toNat % 128 = m at *
          have hm : m < 128 := by omega
          clear hb1 hq hpow
          go_wp2_with fail
          go_quiet (fail)
          go_wp2_with fail
          go_quiet (fail)
          go_wp2_with fail
          all_goals
            go_roundw
            case rel => exact ⟨k + 1, _, by go_num, by rw [HS.out], HM.out, HRBn.out, (HO.out.setCell 1 _).like rfl rfl rfl rfl⟩
            case measure => simp [intOf]; omega
        · have e2 : decide ((c.toNat : Int) < 128) = true := by simp; omega
          by_cases hb3 : 0 < k ∧ c.toNat = 0
          · have HN := Lib.hid (rd_long hlt HCC.out HRD.out hb1 hb3)
            have HVS := Lib.hid (st_none HN.out hst.out)
            obtain ⟨hk0, hc0⟩ := hb3
            have e4 : ((c.toNat : Int) == 0) = true := by simp; omega
            have e5 : decide ((1 : Int) < (c.toNat : Int)) = false := by simp; omega
            have e6 : decide ((0 : Int) < (k : Int)) = true := by simp; omega
            clear hb1 hb2 hc0
            cases e1 : ((k : Int) == 9)
            all_goals
              go_wp2_with fail
              go_quiet (fail)
              go_wp2_with fail
              go_quiet (fail)
              go_wp2_with fail
              go_ret
              exact ⟨by rw [HVS.out.1]; rfl, by rw [HVS.out.2]; exact RR.dead HRBn.out.setBad, ((HO.out.setCell 1 _).setCell 2 _).like rfl rfl rfl rfl⟩
          · have HN := Lib.hid (rd_done hlt HCC.out HRD.out hb1 hb2 hb3)
            have hpow := room_pow (k := k) (m := c.toNat % 128) (by omega)
            have hm0 : (c.toNat : Int) % 128 = ((c.toNat % 128 : Nat) : Int) := by omega
            have hn0 := HN.out
            have hu := rdU_lt hn0
            have hs := shl_in (x := x) hpow hu
            obtain ⟨u0, hu0⟩ : ∃ y, y = x + c.toNat % 128 * 2 ^ (7 * k) := ⟨_, rfl⟩
            rw [← hu0] at hn0 hs hu
            have HVS := Lib.hid (st_some hn0 hst.out)
            have HDL := Lib.hid (show L.drop (k + 1) = C.drop (at_ + (k + 1)) by rw [HCL.out, List.drop_drop])
            have hways : (((k : Int) == 9) = true ∧ decide ((1 : Int) < (c.toNat : Int)) = false ∧ 0 < k ∧ ((c.toNat : Int) == 0) = false) ∨
                (((k : Int) == 9) = false ∧ True ∧ 0 < k ∧ ((c.toNat : Int) == 0) = false) ∨ (((k : Int) == 9) = false ∧ True ∧ ¬ 0 < k ∧ True) := by
              by_cases h9 : k = 9
              · exact .inl ⟨by simp; omega, by simp; omega, by omega, by simp; omega⟩
              · by_cases h0 : 0 < k
                · exact .inr (.inl ⟨by simp; omega, trivial, h0, by simp; omega⟩)
                · exact .inr (.inr ⟨by simp; omega, trivial, h0, trivial⟩)
            have hodd : (((u0 : Int) % 2 == 1) = true ∧ Hid (zz u0 = -((u0 : Int) / 2) - 1)) ∨ (((u0 : Int) % 2 == 1) = false ∧ Hid (zz u0 = (u0 : Int) / 2)) := by
              unfold zz
              by_cases h : u0 % 2 = 1
              · exact .inl ⟨by simp; omega, by rw [if_pos h]; show _ = _; omega⟩
              · exact .inr ⟨by simp; omega, by rw [if_neg h]; show _ = _; omega⟩
            clear hb1 hb2 hb3 HN hn0 hpow
            generalize hq : c.toNat % 128 = m at *
            have hm : m < 128 := by omega
            clear hq hu0
            rcases hways with ⟨e3, e4, e5, e6⟩ | ⟨e3, e4, e5, e6⟩ | ⟨e3, e4, e5, e6⟩
            all_goals
              rcases hodd with ⟨e7, e8⟩ | ⟨e7, e8⟩
              all_goals
                go_wp2_with fail
                go_quiet (fail)
                go_wp2_with fail
                go_quiet (fail)
                go_wp2_with fail
                go_ret
                exact ⟨by rw [HVS.out.1, e8.out]; first | rfl | exact ret_int (by omega), by rw [HVS.out.2, HDL.out]; exact RR.live HRBn.out rfl, (HO.out.setCell 1 _).like rfl rfl rfl rfl⟩
    · have hkL : k = L.length := by omega
      have HN := Lib.hid (rd_short hkL hrd)
      have HVS := Lib.hid (st_none HN.out hst.out)
      have hi3 : decide ((C.length : Int) ≤ (at_ : Int) + (k : Int)) = true := by simp; omega
      clear hrd hx hx63
      go_wp2_with fail
      go_quiet (fail)
      go_wp2_with fail
      go_ret
      exact ⟨by rw [HVS.out.1]; rfl, by rw [HVS.out.2]; exact RR.dead HB.out.setBad, (HO.out.setCell 2 _).like rfl rfl rfl rfl⟩
theorem refrint_any (g : Nat) (s : St) (w : World) (h : RR w g s) :
    Calls Tryz.prog 42 #[.pointer (some ⟨g, 0, none⟩)] w (LeftR w g (.int .i64 (stI s).1) (stI s).2) := by
  obtain ⟨L, b⟩ := s
  obtain ⟨A, C, cap, at_, h1, h2⟩ := h
  simp only at h1 h2
  cases b with
  | false => exact refrint_at g L (stI (L, false)).2 (stI (L, false)).1 w A C cap at_ h1 (by rw [h2]; rfl) (Lib.hid rfl)
  | true =>
    rw [if_pos rfl] at h2
    subst h2
    have hs : stI ([], true) = (0, ([], true)) := rfl
    rw [hs]
    obtain ⟨c0, c1, c2, f1, f2⟩ := h1.cells
    have HB := Lib.hid h1
    clear h1 hs
    go_enter Tryz.func42, Tryz.ntmps42
    go_wp2_with fail
    refine wp_loop_rounds 1 ?_
    rw [rounds_succ]
    go_wp2_with fail
    go_quiet (fail)
    go_wp2_with fail
    go_ret
    exact ⟨rfl, RR.dead HB.out.setBad, ((Only.refl g w).setCell 2 _).like rfl rfl rfl rfl⟩
end
/- Contracts of the document's own reader's Bool, Count, Text. -/
section
open Go.RowKit

theorem ret_b {a b : Bool} (h : a = b) : Ending.returned (.bool a) = .returned (.bool b) := by rw [h]

set_option maxHeartbeats 1000000 in
theorem refrcount_any (g : Nat) (s : St) (most : Int) (w : World) (h : RR w g s) :
    Calls Tryz.prog 41 #[.pointer (some ⟨g, 0, none⟩), .int .i64 most] w (LeftR w g (.int .i64 (stC most s).1) (stC most s).2) := by
  have hi := refrint_any g s w h
  have hlo := stI_lo s
  have hyes := fun h => stC_yes (most := most) (s := s) h
  have hno := fun h => stC_no (most := most) (s := s) h
  obtain ⟨n, hn⟩ : ∃ n, n = (stI s).1 := ⟨_, rfl⟩
  obtain ⟨s1, hs1⟩ : ∃ s1, s1 = (stI s).2 := ⟨_, rfl⟩
  have hp : stI s = (n, s1) := by rw [hn, hs1]
  rw [hp] at hi hlo hyes hno
  simp only at hi hlo hyes hno
  clear hn hs1 hp h
  obtain ⟨hlo1, hlo2⟩ := hlo
  by_cases hok : 0 ≤ n ∧ n ≤ most ∧ n ≤ (s1.1.length : Int)
  · have hy := hyes hok
    clear hyes hno
    rw [hy]
    clear hy
    cases hb : s1.2 with
    | true =>
      go_enter Tryz.func41, Tryz.ntmps41
      go_wp2_with fail
      refine hi.mono ?_
      rintro e w1 ⟨rfl, hR, hO⟩
      obtain ⟨A, C, cap, at_, h1, h2⟩ := hR
      rw [hb] at h1 h2
      rw [if_pos rfl] at h2
      obtain ⟨c0, c1, c2, f1, f2⟩ := h1.cells
      have HB := Lib.hid h1
      have HO := Lib.hid hO
      have hn0 : n = 0 := by rw [h2] at hok; simp at hok; omega
      have HS := Lib.hid (show s1 = ([], true) by rw [← h2, ← hb])
      have HN := Lib.hid hn0
      clear hi h1 h2 hO hb hok hn0
      go_wp2_with fail
      go_ret
      exact ⟨by rw [HN.out]; rfl, by rw [HS.out]; exact RR.dead HB.out.setBad, HO.out.setCell 2 _⟩
    | false =>
      obtain ⟨ho1, ho2, ho3⟩ := hok
      have HBAD := Lib.hid hb
      go_enter Tryz.func41, Tryz.ntmps41
      go_wp2_with fail
      refine hi.mono ?_
      rintro e w1 ⟨rfl, hR, hO⟩
      have cl := refleft_any g s1 w1 hR
      have HR := Lib.hid hR
      obtain ⟨A, C, cap, at_, h1, h2⟩ := hR
      rw [hb] at h1
      obtain ⟨c0, c1, c2, f1, f2⟩ := h1.cells
      have HO := Lib.hid hO
      clear hi h1 h2 hO hb
      go_wp2_with fail
      refine cl.mono ?_
      rintro e w2 ⟨rfl, nd, rfl⟩
      go_wp2_with fail
      go_ret
      exact ⟨rfl, HR.out, HO.out.like rfl rfl rfl rfl⟩
  · have hy := hno hok
    clear hyes hno
    rw [hy]
    clear hy
    have hw : n < 0 ∨ (0 ≤ n ∧ most < n) ∨ (0 ≤ n ∧ n ≤ most ∧ (s1.1.length : Int) < n) := by omega
    clear hok
    rcases hw with h1 | ⟨h1, h2⟩ | ⟨h1, h2, h3⟩
    all_goals
      cases hb : s1.2
      all_goals
        go_enter Tryz.func41, Tryz.ntmps41
        go_wp2_with fail
        refine hi.mono ?_
        rintro e w1 ⟨rfl, hR, hO⟩
        have cl := refleft_any g s1 w1 hR
        obtain ⟨A, C, cap, at_, k1, k2⟩ := hR
        rw [hb] at k1
        obtain ⟨c0, c1, c2, f1, f2⟩ := k1.cells
        have HB := Lib.hid k1
        have HO := Lib.hid hO
        clear hi k1 k2 hO hb
        go_wp2_with fail
        try
          refine cl.mono ?_
          rintro e w2 ⟨rfl, nd, rfl⟩
          go_wp2_with fail
        go_ret
        exact ⟨rfl, RR.dead HB.out.setBad, (HO.out.setCell 2 _).like rfl rfl rfl rfl⟩
end
/- Contract of the document's own reader's Text. -/
section
open Go.ChangeShapes Go.WideShapes Go.ChangeAt Go.RowKit

theorem bs_cut {w : World} {A : Option Addr} {C : List UInt8} {cap : Nat} (h : Bs w A C) (at_ k : Nat) (hc : C.length ≤ cap) : Bs w (if cap = at_ then A else A.map (·.add at_)) ((C.drop at_).take k) := bs_take (bs_drop h at_ cap hc) k

set_option maxHeartbeats 1000000 in
set_option maxRecDepth 100000 in
theorem refrtext_any (g : Nat) (s : St) (most : Int) (w : World) (h : RR w g s) :
    Calls Tryz.prog 43 #[.pointer (some ⟨g, 0, none⟩), .int .i64 most] w (LeftR w g (.string ⟨(stT most s).1.toArray⟩) (stT most s).2) := by
  have hc := refrcount_any g s most w h
  have hlo := stC_lo most s
  unfold stT
  obtain ⟨n, hn⟩ : ∃ n, n = (stC most s).1 := ⟨_, rfl⟩
  obtain ⟨s1, hs1⟩ : ∃ s1, s1 = (stC most s).2 := ⟨_, rfl⟩
  rw [← hn, ← hs1] at hc hlo ⊢
  clear hn hs1 h
  obtain ⟨k, rfl⟩ : ∃ k : Nat, n = (k : Int) := ⟨n.toNat, by omega⟩
  obtain ⟨L, b⟩ := s1
  simp only [Int.toNat_natCast] at *
  obtain ⟨_, hk⟩ := hlo
  have hkl : k ≤ L.length := by omega
  clear hk
  cases b with
  | true =>
    go_enter Tryz.func43, Tryz.ntmps43
    go_wp2_with fail
    refine hc.mono ?_
    rintro e w1 ⟨rfl, hR, hO⟩
    obtain ⟨A, C, cap, at_, h1, h2⟩ := hR
    have h3 : L = [] := h2
    subst h3
    obtain ⟨c0, c1, c2, f1, f2⟩ := h1.cells
    have HB := Lib.hid h1
    have HO := Lib.hid hO
    clear hc h1 h2 hO
    simp only at c2
    go_wp2_with fail
    go_ret
    exact ⟨by simp, by simp; exact RR.dead HB.out, HO.out⟩
  | false =>
    go_enter Tryz.func43, Tryz.ntmps43
    go_wp2_with fail
    refine hc.mono ?_
    rintro e w1 ⟨rfl, hR, hO⟩
    obtain ⟨A, C, cap, at_, h1, h2⟩ := hR
    have h3 : L = C.drop at_ := h2
    have h4 : RB w1 g A C cap at_ false := h1
    obtain ⟨c0, c1, c2, f1, f2⟩ := h4.cells
    have hlen : L.length = C.length - at_ := by rw [h3, List.length_drop]
    have hat := h4.2.2.2.2
    have hcl := h4.2.2.2.1
    have hlc := h4.2.2.1
    have hak : at_ + k ≤ C.length := by omega
    have HRBn := Lib.hid (h4.setAt (n := at_ + k) hak)
    have hwn : (w1.setCell ⟨g, 1, none⟩ (.int .i64 ((at_ + k : Nat) : Int))) = (w1.setCell ⟨g, 1, none⟩ (.int .i64 ((at_ : Int) + (k : Int)))) := by rw [Int.natCast_add]
    rw [hwn] at HRBn
    have htk : ((C.drop at_).take k).length = k := by rw [List.length_take, List.length_drop]; omega
    have ks := run_str_of (P := Tryz.prog) (w := (w1.setCell ⟨g, 1, none⟩ (.int .i64 ((at_ : Int) + (k : Int)))).drew) 35 9 5 (cap - at_) Tryz.underlying35 Tryz.underlying5 Tryz.underlying9 (bs_cut HRBn.out.2.1 at_ k hlc)
    rw [htk, ← h3] at ks
    have HL := Lib.hid h3
    have HO := Lib.hid hO
    have hi1 : IntKind.i64.wrap ((at_ : Int) + (k : Int)) = (at_ : Int) + (k : Int) := IntWalk.i64_in _ (by omega)
    have hi2 : IntKind.i64.wrap ((at_ : Int) + (k : Int) - (k : Int)) = (at_ : Int) := by rw [Int.add_sub_cancel]; exact IntWalk.i64_in _ (by omega)
    have hi3 : IntKind.i64.wrap (at_ : Int) = (at_ : Int) := IntWalk.i64_in _ (by omega)
    have hi4 : ((at_ : Int) + (k : Int)).toNat = at_ + k := by omega
    have hi5 : at_ + k - at_ = k := by omega
    have hacap : at_ + k ≤ cap := by omega
    clear hc h1 h2 hO h3 h4 hlen hwn htk hkl
    generalize L.take k = T at *
    have HS := Lib.hid ((HO.out).setCell 1 (.int .i64 ((at_ : Int) + (k : Int))))
    go_wp2_with fail
    obtain ⟨d0, d1, d2, _, _⟩ := HRBn.out.cells
    simp only [Int.natCast_add] at d1
    clear c0 c1 c2 f1 f2
    generalize w1.setCell ⟨g, 1, none⟩ (.int .i64 ((at_ : Int) + (k : Int))) = wx at *
    by_cases hca : cap = at_
    · rw [if_pos hca] at ks
      have hk0 : k = 0 := by omega
      subst hk0
      rw [show cap - at_ = 0 by omega] at ks
      simp only [Int.natCast_zero, Int.add_zero, Nat.add_zero, Nat.sub_self] at *
      refine wp_region_still_lit (by kernel_rfl) (by kernel_rfl) ?_
      repeat still_step
      refine wpStill_nil ?_
      change Exit.then _ _ _ _ wx.drew
      go_wp2_with fail
      go_ret
      exact ⟨rfl, RR.live HRBn.out (by rw [HL.out]; rfl), HS.out.like rfl rfl rfl rfl⟩
    · rw [if_neg hca] at ks
      have hj1 : (at_ : Int) + (k : Int) ≤ (cap : Int) := by omega
      have hj2 : (0 : Int) ≤ (at_ : Int) := by omega
      have hj3 : (at_ : Int) ≤ (at_ : Int) + (k : Int) := by omega
      have hj4 : ((0 : Int) ≤ (at_ : Int) ∧ (at_ : Int) ≤ (at_ : Int) + (k : Int) ∧ (at_ : Int) + (k : Int) ≤ (cap : Int)) := ⟨hj2, hj3, hj1⟩
      refine wp_region_still_lit (by kernel_rfl) (by kernel_rfl) ?_
      repeat still_step
      refine wpStill_nil ?_
      change Exit.then _ _ _ _ wx.drew
      go_wp2_with fail
      go_ret
      exact ⟨rfl, RR.live HRBn.out (by rw [HL.out, List.drop_drop]), HS.out.like rfl rfl rfl rfl⟩
end
end Go.Proofs.YtindkpfmflcibaaGreatDoor
