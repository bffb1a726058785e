/- The statement WireReads: any bytes, read by any calls (the first 60): each answer, and what is left, is what the document says; what is done to the bytes behind New turns nothing. Conditions: none. -/
import Derived.Test.YtamejodgilnchaaRefRText
import Derived.Test.YtamejodgilnchaaArgs
import Derived.Deep.AppendLies
import Derived.Deep.QuietTactic
import Derived.BigQuiet
namespace Go.Proofs.Ytamejodgilnchaa
open Go.ChangeShapes Go.WideShapes Go.ChangeAt Go.RowKit

theorem own_below {B : Nat} {w w' : World} {v : Value} {n : Nat} {xs : List Value} {e : TypeId} (h : w.ownsRow B e 1 v n xs) (hb : Below w.heap.size w w') : w'.ownsRow B e 1 v n xs := by
  refine ⟨h.1, ?_⟩
  rcases h.2 with h2 | ⟨g, cap, cur, e1, e2, e3, e4⟩
  · exact .inl h2
  · have hg : g < w.heap.size := by
      rcases Nat.lt_or_ge g w.heap.size with hlt | hge
      · exact hlt
      · rw [Array.getElem?_eq_none hge] at e3; cases e3
    exact .inr ⟨g, cap, cur, e1, e2, (hb.block g hg).trans e3, e4⟩
theorem own_block {B : Nat} {w : World} {A : Option Addr} {n cap : Nat} {k : Nat} {xs : List Value} {e : TypeId} (h : w.ownsRow B e 1 (.slice A n cap) k xs) : ∀ a, A = some a → B ≤ a.block ∧ a.block < w.heap.size := by
  rintro a rfl
  rcases h.2 with ⟨e1, _⟩ | ⟨g, c, cur, e1, e2, e3, _⟩
  · injection e1 with e1; cases e1
  · injection e1 with e1
    injection e1 with e1
    subst e1
    refine ⟨e2, ?_⟩
    rcases Nat.lt_or_ge g w.heap.size with hlt | hge
    · exact hlt
    · rw [Array.getElem?_eq_none hge] at e3; cases e3
theorem own_cell {w : World} {B : Nat} {e : TypeId} {g n cap : Nat} {C : List UInt8} (h : w.ownsRow B e 1 (.slice (some ⟨g, 0, none⟩) n cap) n (Lib.byteCells C)) (p : Nat) (hp : p < n) (hn : C.length = n) : w.cell? ⟨g, p, none⟩ = some (.int .u8 ((C.getD p 0).toNat : Int)) := by
  rw [h.cellAt p (by omega)]
  unfold Lib.byteCells
  rw [List.getElem?_map, List.getElem?_eq_getElem (by omega), List.getD_eq_getElem?_getD, List.getElem?_eq_getElem (by omega)]
  rfl
theorem xor_255 (c : UInt8) : bits .xor .u8 (c.toNat : Int) 255 = ((c ^^^ 255).toNat : Int) := by
  have h : bits .xor .u8 (c.toNat : Int) 255 = ((c.toNat ^^^ 255 : Nat) : Int) := u8_xor_nat c.toNat 255 c.toNat_lt (by decide)
  rw [h, UInt8.toNat_xor]; rfl
/-- While the bytes that the reader was made of are turned. -/
def XorRel (w wr : World) (A Ac : Option Addr) (L : List UInt8) (cap capc N g g2 : Nat) : Prop :=
  ∃ D : List UInt8, D.length = L.length ∧ wr.ownsRow w.heap.size 5 1 (.slice Ac L.length capc) L.length (Lib.byteCells D) ∧ Below w.heap.size w wr ∧ Rd N wr g (L, false) ∧ RB wr g2 A L cap 0 false ∧ (∀ a, Ac = some a → a.block < N) ∧ N ≤ g2
theorem XorRel.start {w w1 w2 : World} {A Ac : Option Addr} {L : List UInt8} {cap capc g : Nat} (ho : w1.ownsRow w.heap.size 5 1 (.slice Ac L.length capc) L.length (Lib.byteCells L)) (h1 : Below w.heap.size w w1) (h2 : Below w1.heap.size w1 w2) (hR : Rd w1.heap.size w2 g (L, false))
    (hB : Bs w A L) (hlc : L.length ≤ cap) (hl : L.length ≤ 140737488351232) (t : TypeId) (ht : t = 37) :
    XorRel w (w2.alloc (.cells #[.slice A L.length cap, .int .i64 0, .bool false] t)) A Ac L cap capc w1.heap.size g w2.heap.size := by
  subst ht
  have hw2 : Below w.heap.size w w2 := h1.trans (h2.mono h1.size)
  have ha : ∀ k, w1.heap.size ≤ k → k < w2.heap.size → (w2.alloc (.cells #[.slice A L.length cap, .int .i64 0, .bool false] 37)).heap[k]? = w2.heap[k]? := fun k _ hk => Below.heap_alloc _ _ _ hk
  have hal : Below w2.heap.size w2 (w2.alloc (.cells #[.slice A L.length cap, .int .i64 0, .bool false] 37)) := (Below.refl _ _).alloc (Nat.le_refl _) _
  refine ⟨L, rfl, own_below ho (h2.trans (hal.mono h2.size)), hw2.trans (hal.mono hw2.size), hR.kept ha, ⟨heap_alloc_new w2 _, hB.below (hw2.trans (hal.mono hw2.size)), hlc, by omega, Nat.zero_le _⟩, fun a e => (own_block ho a e).2, h2.size⟩
theorem XorRel.step {w wr : World} {A : Option Addr} {L D : List UInt8} {cap capc N g g2 gc k : Nat} (hw : w.heap.size ≤ gc) (hD : D.length = L.length) (ho : wr.ownsRow w.heap.size 5 1 (.slice (some ⟨gc, 0, none⟩) L.length capc) L.length (Lib.byteCells D)) (hb : Below w.heap.size w wr) (hR : Rd N wr g (L, false))
    (hRB : RB wr g2 A L cap 0 false) (hA : gc < N) (hN : N ≤ g2) (hB : Bs w A L) (c : UInt8) : XorRel w (wr.setCell ⟨gc, k, none⟩ (.int .u8 (c.toNat : Int))) A (some ⟨gc, 0, none⟩) L cap capc N g g2 := by
  have hs := (World.ownsRow.stored ho k (.int .u8 (c.toNat : Int))).1
  have e2 : Lib.byteCells (D.set k c) = (Lib.byteCells D).set k (.int .u8 (c.toNat : Int)) := by unfold Lib.byteCells; rw [List.map_set]
  rw [← e2] at hs
  have hb2 : Below w.heap.size w (wr.setCell ⟨gc, k, none⟩ (.int .u8 (c.toNat : Int))) := hb.setCell (p := ⟨gc, k, none⟩) hw _
  refine ⟨D.set k c, by rw [List.length_set]; exact hD, hs, hb2, hR.kept (fun j hj _ => Below.heap_setCell _ _ _ _ (by show j ≠ gc; omega)), ?_, fun a e => by injection e with e; subst e; exact hA, hN⟩
  exact ⟨(Below.heap_setCell _ _ _ _ (by show g2 ≠ gc; omega)).trans hRB.1, hB.below hb2, hRB.2.2⟩
theorem quiet_left {P : Program} {f : FuncId} {args : Array Value} {w : World} {n : Nat} {v : Value}
    (h : Calls P f args (w.drewN n) fun e w' => e = .returned v ∧ w.drewN n = w') : Calls P f args (w.drewN n) fun e w'' => e = .returned v ∧ ∃ m, w'' = w.drewN m :=
  h.mono fun _ _ ⟨he, hm⟩ => ⟨he, n, hm.symm⟩
theorem quiet_draws {P : Program} {f : FuncId} {args : Array Value} {w : World} {n : Nat} {v : Value}
    (h : Calls P f args (w.drewN n) fun e w' => e = .returned v ∧ ∃ m, w' = (w.drewN n).drewN m) : Calls P f args (w.drewN n) fun e w'' => e = .returned v ∧ ∃ m, w'' = w.drewN m :=
  h.mono fun _ _ ⟨he, m, hm⟩ => ⟨he, n + m, by rw [hm, World.drewN_drewN]⟩
theorem not_self (b : Bool) : ((!b) == b) = false := by cases b <;> rfl
/-- While it is read. -/
def ReadRel (w wr : World) (N g g2 : Nat) : Prop := ∃ s : St, Rd N wr g s ∧ RR wr g2 s ∧ Below w.heap.size w wr

theorem ReadRel.draws {w wr : World} {N g g2 : Nat} (h : ReadRel w wr N g g2) (n : Nat) : ReadRel w (wr.drewN n) N g g2 := by
  obtain ⟨s, h1, h2, h3⟩ := h
  exact ⟨s, h1, h2, ⟨h3.os, h3.tape, h3.output, h3.size, h3.block⟩⟩

set_option maxHeartbeats 4000000 in
set_option maxRecDepth 100000 in
theorem wirereads_walk (A : Option Addr) (L : List UInt8) (cap : Nat) (A1 : Option Addr) (K : List Int) (capk : Nat) (A2 : Option Addr) (M : List Int) (capm : Nat) (w : World) (hlc : L.length ≤ cap) (hcm : cap ≤ 140737488351232) (hB : Bs w A L) (hcap : A = none → cap = 0)
    (hkc : K.length ≤ capk) (hkm : capk ≤ 17592186044416) (hK : Is w A1 K) (hKb : ∀ z ∈ K, -9223372036854775808 ≤ z ∧ z ≤ 9223372036854775807) (hmc : M.length ≤ capm) (hmm : capm ≤ 17592186044416) (hM : Is w A2 M) (hMb : ∀ z ∈ M, -9223372036854775808 ≤ z ∧ z ≤ 9223372036854775807) :
    Calls Try.prog 4 #[.slice A L.length cap, .slice A1 K.length capk, .slice A2 M.length capm] w fun e w' => e = .returned (.bool true) ∧ Below w.heap.size w w' := by
  have hl : L.length ≤ 140737488351232 := by omega
  have hkl : K.length ≤ 17592186044416 := by omega
  have hml : M.length ≤ 17592186044416 := by omega
  have cby := bytes_any A L cap w hl hB hcap
  go_enter Try.func4, Try.ntmps4
  go_wp2_with fail
  refine cby.mono ?_
  rintro e w1 ⟨Ac, capc, rfl, hB1, hn1, ho1, hq1⟩
  have cn := new_any Ac L capc w1 (by omega) hB1 hn1
  have HO := Lib.hid ho1
  have HQ1 := Lib.hid hq1
  clear cby hB1 hn1 ho1 hq1
  go_wp2_with fail
  refine cn.mono ?_
  rintro e w2 ⟨g, rfl, hR, hq2⟩
  have HR := Lib.hid hR
  have HQ2 := Lib.hid hq2
  clear cn hR hq2
  go_wp2_with fail
  have HS := Lib.hid (XorRel.start HO.out HQ1.out HQ2.out HR.out hB hlc hl _ rfl)
  have hgg : g < w2.heap.size := HR.out.lt
  have hNw : w.heap.size ≤ w1.heap.size := HQ1.out.size
  have hN2 : w1.heap.size ≤ w2.heap.size := HQ2.out.size
  clear HO HQ1 HQ2 HR
  generalize w2.heap.size = g2 at *
  generalize w1.heap.size = N at *
  go_loopw [10] (fun i wr => ∃ k : Nat, k ≤ L.length ∧ i = .int .i64 k ∧ XorRel w wr A Ac L cap capc N g g2) (fun i _ => L.length - (intOf i).toNat)
  case atStart => exact ⟨0, Nat.zero_le _, rfl, HS.out⟩
  case round =>
    clear HS
    obtain ⟨k, hk, rfl, D, hD, ho, hb, hR, hRB, hA, hN⟩ := hrel
    by_cases hlt : k < L.length
    · obtain ⟨gc, cap2, hform, hgw, _⟩ := World.ownsRow.form ho (by omega)
      injection hform with hA1 _ hcc
      subst hA1
      subst hcc
      have hcell := own_cell ho k hlt hD
      have hfr := World.ownsRow.frozenAt ho k
      have HX := Lib.hid (XorRel.step (k := k) hgw hD ho hb hR hRB (hA _ rfl) hN hB (D.getD k 0 ^^^ 255))
      have hxo := xor_255 (D.getD k 0)
      clear hD ho hb hR hRB hA hN
      generalize D.getD k 0 = c at *
      go_wp2_with fail
      go_roundw
      case rel => exact ⟨k + 1, by omega, by go_num, HX.out⟩
      case measure => simp [intOf]; omega
    · have HRR := Lib.hid (show ReadRel w wr N g g2 from ⟨(L, false), hR, RR.live hRB rfl, hb⟩)
      clear hD ho hb hR hRB hA hN
      obtain ⟨wx, rfl⟩ : ∃ wx, wx = wr := ⟨_, rfl⟩
      go_wp2_with fail
      go_loopw [11] (fun i wr => ∃ k : Nat, k ≤ K.length ∧ k ≤ 60 ∧ i = .int .i64 k ∧ ReadRel w wr N g g2) (fun i _ => 60 - (intOf i).toNat)
      case atStart => exact ⟨0, Nat.zero_le _, by decide, rfl, HRR.out⟩
      case round =>
        clear HRR
        obtain ⟨k, hk, hk60, rfl, s, hR, hRR, hb⟩ := hrel
        have HR := Lib.hid hR
        have HRR := Lib.hid hRR
        have HBL := Lib.hid hb
        clear hR hRR hb
        have hgw : w.heap.size ≤ g := Nat.le_trans hNw HR.out.1
        have hg2w : w.heap.size ≤ g2 := by omega
        by_cases hlt : k < K.length ∧ k < 60
        · obtain ⟨hlt1, hlt2⟩ := hlt
          obtain ⟨kb, ko, rfl, hkc⟩ := hK.below HBL.out (by omega)
          have hkcell := hkc k hlt1
          have hqb := hKb (K.getD k 0) (by rw [List.getD_eq_getElem?_getD, List.getElem?_eq_getElem hlt1]; exact List.getElem_mem hlt1)
          clear hkc
          generalize K.getD k 0 = q at *
          obtain ⟨hq0, hq1⟩ := hqb
          have hpl := fun w => place_any q 4 w hq0 hq1 (by decide) (by decide)
          have hp0 := placeZ_lo q 4 (by decide)
          have hp3 := placeZ_hi q 4 (by decide)
          generalize placeZ q 4 = p at *
          have hmv : ∃ mv : Int, -9223372036854775808 ≤ mv ∧ mv ≤ 9223372036854775807 ∧ ((k < M.length ∧ ∃ mb mo, A2 = some ⟨mb, mo, none⟩ ∧ wr.cell? ⟨mb, mo + k, none⟩ = some (.int .i64 mv)) ∨ (¬ k < M.length ∧ mv = 50)) := by
            by_cases hm : k < M.length
            · obtain ⟨mb, mo, e, hmc2⟩ := hM.below HBL.out (by omega)
              have hmvb := hMb (M.getD k 0) (by rw [List.getD_eq_getElem?_getD, List.getElem?_eq_getElem hm]; exact List.getElem_mem hm)
              exact ⟨_, hmvb.1, hmvb.2, .inl ⟨hm, mb, mo, e, hmc2 k hm⟩⟩
            · exact ⟨50, by decide, by decide, .inr ⟨hm, rfl⟩⟩
          obtain ⟨mv, hmv0, hmv1, hmv2⟩ := hmv
          have hne : g2 ≠ g := by omega
          have hne2 : g ≠ g2 := by omega
          have hpp : p = 0 ∨ p = 1 ∨ p = 2 ∨ p = 3 := by omega
          clear hp0 hp3
          rcases hmv2 with ⟨hm, mb, mo, rfl, hmcell⟩ | ⟨hm, rfl⟩
          all_goals
            go_wp2_with fail
            refine (hpl wr).mono ?_
            rintro e w' ⟨rfl, rfl⟩
            clear hpl
            rcases hpp with rfl | rfl | rfl | rfl
            all_goals
              go_wp2_with fail
              first
              | ((with_reducible refine (int_any N g s wr HR.out).mono ?_)
                 rintro e wa ⟨rfl, hR1, hO1⟩
                 have hRR1 := HRR.out.other HR.out hO1 hne
                 have HB1 := Lib.hid (HBL.out.trans (hO1.below hgw))
                 have cr := refrint_any g2 s wa hRR1
                 have HR1 := Lib.hid hR1
                 have HRR1 := Lib.hid hRR1
                 clear hO1 hR1 hRR1 HR HRR HBL
                 generalize (stI s).2 = sn at *
                 generalize (stI s).1 = vv at *
                 go_wp2_with fail
                 refine cr.mono ?_
                 rintro e wb ⟨rfl, hRR2, hO2⟩
                 have HRn := Lib.hid (HR1.out.otherRR HRR1.out hO2 hne2)
                 have HBn := Lib.hid (HB1.out.trans (hO2.below hg2w))
                 have HRRn := Lib.hid hRR2
                 clear cr hO2 hRR2 HR1 HRR1 HB1)
              | ((with_reducible refine (bool_any N g s wr HR.out).mono ?_)
                 rintro e wa ⟨rfl, hR1, hO1⟩
                 have hRR1 := HRR.out.other HR.out hO1 hne
                 have HB1 := Lib.hid (HBL.out.trans (hO1.below hgw))
                 have cr := refrbool_any g2 s wa hRR1
                 have HR1 := Lib.hid hR1
                 have HRR1 := Lib.hid hRR1
                 clear hO1 hR1 hRR1 HR HRR HBL
                 generalize (stB s).2 = sn at *
                 generalize (stB s).1 = vv at *
                 go_wp2_with fail
                 refine cr.mono ?_
                 rintro e wb ⟨rfl, hRR2, hO2⟩
                 have HRn := Lib.hid (HR1.out.otherRR HRR1.out hO2 hne2)
                 have HBn := Lib.hid (HB1.out.trans (hO2.below hg2w))
                 have HRRn := Lib.hid hRR2
                 clear cr hO2 hRR2 HR1 HRR1 HB1)
              | ((with_reducible refine (text_any N g s mv wr HR.out).mono ?_)
                 rintro e wa ⟨rfl, hR1, hO1⟩
                 have hRR1 := HRR.out.other HR.out hO1 hne
                 have HB1 := Lib.hid (HBL.out.trans (hO1.below hgw))
                 have cr := refrtext_any g2 s mv wa hRR1
                 have HR1 := Lib.hid hR1
                 have HRR1 := Lib.hid hRR1
                 clear hO1 hR1 hRR1 HR HRR HBL
                 generalize (stT mv s).2 = sn at *
                 generalize (⟨(stT mv s).1.toArray⟩ : ByteArray) = vv at *
                 go_wp2_with fail
                 refine cr.mono ?_
                 rintro e wb ⟨rfl, hRR2, hO2⟩
                 have HRn := Lib.hid (HR1.out.otherRR HRR1.out hO2 hne2)
                 have HBn := Lib.hid (HB1.out.trans (hO2.below hg2w))
                 have HRRn := Lib.hid hRR2
                 clear cr hO2 hRR2 HR1 HRR1 HB1)
              | ((with_reducible refine (count_any N g s mv wr HR.out).mono ?_)
                 rintro e wa ⟨rfl, hR1, hO1⟩
                 have hRR1 := HRR.out.other HR.out hO1 hne
                 have HB1 := Lib.hid (HBL.out.trans (hO1.below hgw))
                 have cr := refrcount_any g2 s mv wa hRR1
                 have HR1 := Lib.hid hR1
                 have HRR1 := Lib.hid hRR1
                 clear hO1 hR1 hRR1 HR HRR HBL
                 generalize (stC mv s).2 = sn at *
                 generalize (stC mv s).1 = vv at *
                 go_wp2_with fail
                 refine cr.mono ?_
                 rintro e wb ⟨rfl, hRR2, hO2⟩
                 have HRn := Lib.hid (HR1.out.otherRR HRR1.out hO2 hne2)
                 have HBn := Lib.hid (HB1.out.trans (hO2.below hg2w))
                 have HRRn := Lib.hid hRR2
                 clear cr hO2 hRR2 HR1 HRR1 HB1)
              | ((with_reducible refine (text_any N g s (50 : Int) wr HR.out).mono ?_)
                 rintro e wa ⟨rfl, hR1, hO1⟩
                 have hRR1 := HRR.out.other HR.out hO1 hne
                 have HB1 := Lib.hid (HBL.out.trans (hO1.below hgw))
                 have cr := refrtext_any g2 s (50 : Int) wa hRR1
                 have HR1 := Lib.hid hR1
                 have HRR1 := Lib.hid hRR1
                 clear hO1 hR1 hRR1 HR HRR HBL
                 generalize (stT (50 : Int) s).2 = sn at *
                 generalize (⟨(stT (50 : Int) s).1.toArray⟩ : ByteArray) = vv at *
                 go_wp2_with fail
                 refine cr.mono ?_
                 rintro e wb ⟨rfl, hRR2, hO2⟩
                 have HRn := Lib.hid (HR1.out.otherRR HRR1.out hO2 hne2)
                 have HBn := Lib.hid (HB1.out.trans (hO2.below hg2w))
                 have HRRn := Lib.hid hRR2
                 clear cr hO2 hRR2 HR1 HRR1 HB1)
              | ((with_reducible refine (count_any N g s (50 : Int) wr HR.out).mono ?_)
                 rintro e wa ⟨rfl, hR1, hO1⟩
                 have hRR1 := HRR.out.other HR.out hO1 hne
                 have HB1 := Lib.hid (HBL.out.trans (hO1.below hgw))
                 have cr := refrcount_any g2 s (50 : Int) wa hRR1
                 have HR1 := Lib.hid hR1
                 have HRR1 := Lib.hid hRR1
                 clear hO1 hR1 hRR1 HR HRR HBL
                 generalize (stC (50 : Int) s).2 = sn at *
                 generalize (stC (50 : Int) s).1 = vv at *
                 go_wp2_with fail
                 refine cr.mono ?_
                 rintro e wb ⟨rfl, hRR2, hO2⟩
                 have HRn := Lib.hid (HR1.out.otherRR HRR1.out hO2 hne2)
                 have HBn := Lib.hid (HB1.out.trans (hO2.below hg2w))
                 have HRRn := Lib.hid hRR2
                 clear cr hO2 hRR2 HR1 HRR1 HB1)
              have cok := fun n => quiet_left (n := n) (ok_any N g sn (wb.drewN n) HRn.out)
              have cle := fun n => quiet_left (n := n) (left_any N g sn (wb.drewN n) HRn.out)
              have cen := fun n => quiet_left (n := n) (end_any N g sn (wb.drewN n) HRn.out)
              have crl := fun n => quiet_draws (n := n) (refleft_any g2 sn (wb.drewN n) HRRn.out)
              have cre := fun n => quiet_draws (n := n) (refend_any g2 sn (wb.drewN n) HRRn.out)
              obtain ⟨bA, bC, bcap, bat, bRB, _⟩ := HRRn.out
              have hbad := bRB.cells.2.2.1
              have hns := not_self sn.2
              have HSN := Lib.hid (show ReadRel w wb N g g2 from ⟨sn, HRn.out, HRRn.out, HBn.out⟩)
              clear bRB HRn HRRn HBn
              generalize (!sn.2 && sn.1.length == 0) = ven at *
              generalize ((sn.1.length : Nat) : Int) = vle at *
              go_wp2_with fail
              go_quiet ((first | (go_at_call 28; exact cok _) | (go_at_call 29; exact cle _) | (go_at_call 30; exact crl _) | (go_at_call 31; exact cen _) | (go_at_call 32; exact cre _)))
              go_wp2_with fail
              go_roundw
              case rel => exact ⟨k + 1, by omega, by omega, by go_num, HSN.out.draws _⟩
              case measure => simp [intOf]; omega
        · have hfl := fail_any N g s wr HR.out
          have hend : k = K.length ∨ (k = 60 ∧ k < K.length) := by omega
          have HQr := HBL
          clear HRR hlt
          rcases hend with hk1 | ⟨hk1, hk2⟩
          all_goals
            subst hk1
            go_wp2_with fail
            refine hfl.mono ?_
            rintro e wa ⟨rfl, hRa, hOa⟩
            have HBa := Lib.hid (HQr.out.trans (hOa.below hgw))
            have co := ok_any N g _ wa hRa
            have ci := int_any N g _ wa hRa
            rw [show stI ([], true) = (0, ([], true)) from rfl] at ci
            clear hfl hRa hOa HR HBL HQr
            go_wp2_with fail
            refine co.mono ?_
            rintro e w' ⟨rfl, rfl⟩
            clear co
            go_wp2_with fail
            refine ci.mono ?_
            rintro e wb ⟨rfl, hRb, hOb⟩
            have HBb := Lib.hid (HBa.out.trans (hOb.below hgw))
            have ct := text_any N g _ 9 wb hRb
            rw [show stT 9 ([], true) = ([], ([], true)) from rfl] at ct
            clear ci hRb hOb HBa
            go_wp2_with fail
            refine ct.mono ?_
            rintro e wc ⟨rfl, hRc, hOc⟩
            have HBc := Lib.hid (HBb.out.trans (hOc.below hgw))
            have ce := end_any N g _ wc hRc
            have haw := awake_any wc
            clear ct hRc hOc HBb
            go_wp2_with fail
            refine ce.mono ?_
            rintro e w' ⟨rfl, rfl⟩
            clear ce
            go_wp2_with fail
            refine haw.mono ?_
            rintro e wd ⟨rfl, hqd⟩
            go_wp2
            go_ret
            exact ⟨rfl, HBc.out.trans (hqd.mono HBc.out.size)⟩
set_option maxRecDepth 100000 in
theorem wirereads_lifted (os : Os) (started : os.Started) (H : Type) (enc : TypeId × Value → H) :
    ReturnsInHanded {} Try.checked os 4 .any (Rows.wireReadsSpec.pre6 enc Try.prog Try.f4 Rows.wireReadsRow.domain false) (Rows.wireReadsSpec.post enc Try.prog Try.f4 false true false false) := by
  refine returnsInHanded_of_change_sized (C := Try.checked) own started (by kernel_rfl) Try.func4
    (ChangeSpec.witness6 (enc := enc) (C := Try.checked) false ⟨#[], #[.slice none 0 0, .slice none 0 0, .slice none 0 0], []⟩ 8 (by kernel_rfl) (by kernel_rfl) (by kernel_rfl) (by kernel_rfl)) ?_
  intro W base args ds gs before hval0 hW _ hsz0 _
  have hsz : (DataW.weightsEach Try.prog (Try.f4.params.toList ++ Rows.wireReadsSpec.plain.varTypes Try.prog) (ds ++ gs)).all (· ≤ reachBytes) = true := hsz0
  have hval : ∀ (j : Nat) t v, Try.f4.params[j]? = some t → args[j]? = some v → Value.okWide Try.prog W .any base t v := hval0
  have hW' := hW
  obtain ⟨p, q, hA0, hV, rfl, _, _⟩ := hW
  have hA : DataW.TrodAll enc Try.prog W 0 (fun _ => true) true Try.f4.params.toList args.toList ds p := hA0
  rw [Try.params4] at hA hval hsz
  obtain ⟨v0, v1, v2, d0, d1, d2, p0, p1, p2, rfl, rfl, rfl, h0, h1, h2⟩ := trodAll_three hA
  obtain ⟨rfl, rfl⟩ := trodVars_none hV
  simp only [List.append_nil] at hW'
  have hlt0 : ∀ x ∈ p0, x.block < W.heap.size := fun x hx => hW'.lt x (by simp [hx])
  have h0k := h0
  obtain ⟨A0, L0, c0, rfl, lc0, cm0, B0, N0⟩ := open_bytes Try.underlying22 Try.underlying5 (by kernel_rfl) (hval 0 22 v0 rfl rfl) h0 (fun elems spare e => by
    subst e
    have := sized_slice hsz (j := 0) (t := 22) (e := 5) rfl rfl Try.underlying22
    rwa [show Try.prog.bytesOf 5 = 1 by kernel_rfl] at this)
  have hlt1 : ∀ x ∈ p1, x.block < W.heap.size := fun x hx => hW'.lt x (by simp [hx])
  have h1k := h1
  obtain ⟨A1, L1, c1, rfl, lc1, cm1, B1, N1⟩ := open_nums Try.underlying31 Try.underlying3 (by kernel_rfl) (hval 1 31 v1 rfl rfl) h1 (fun elems spare e => by
    subst e
    have := sized_slice hsz (j := 1) (t := 31) (e := 3) rfl rfl Try.underlying31
    rwa [show Try.prog.bytesOf 3 = 8 by kernel_rfl] at this)
  have hlt2 : ∀ x ∈ p2, x.block < W.heap.size := fun x hx => hW'.lt x (by simp [hx])
  have h2k := h2
  obtain ⟨A2, L2, c2, rfl, lc2, cm2, B2, N2⟩ := open_nums Try.underlying31 Try.underlying3 (by kernel_rfl) (hval 2 31 v2 rfl rfl) h2 (fun elems spare e => by
    subst e
    have := sized_slice hsz (j := 2) (t := 31) (e := 3) rfl rfl Try.underlying31
    rwa [show Try.prog.bytesOf 3 = 8 by kernel_rfl] at this)
  refine (wirereads_walk A0 L0 c0 A1 L1 c1 A2 L2 c2 W lc0 cm0 B0 N0 lc1 cm1 B1 N1 lc2 cm2 B2 N2).mono fun e W' ⟨he, hb⟩ => ?_
  subst he
  exact ⟨_, rfl, _, _, _, [], _, [], hW', trodAll_mk1 (shut_bool Try.underlying4 _), trodAll_mk3 (Below.trod laidOut (by kernel_rfl) (of_decide_eq_true (by kernel_rfl)) h0k hb hlt0) (Below.trod laidOut (by kernel_rfl) (of_decide_eq_true (by kernel_rfl)) h1k hb hlt1) (Below.trod laidOut (by kernel_rfl) (of_decide_eq_true (by kernel_rfl)) h2k hb hlt2), rfl, hb.frame _, fun h => by cases h⟩

theorem wirereads_holds : Rows.WireReadsSaid :=
  OpenClaim.holds_of_wide 4 Try.f4 rfl rfl rfl rfl rfl rfl rfl ⟨rfl, rfl, rfl, rfl, rfl⟩ rfl rfl rfl rfl rfl (by kernel_rfl) Try.func4 (by kernel_rfl)
    (of_decide_eq_true (by kernel_rfl)) (by unfold Func.isWrapper; first | (rw [if_pos (by decide +kernel)]; kernel_rfl) | (rw [if_neg (by decide +kernel)]; exact ⟨rfl, rfl⟩))
    (fun os started H enc _ => wirereads_lifted os started H enc)
end Go.Proofs.Ytamejodgilnchaa
