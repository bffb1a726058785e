/- Bytes appended onto a row of the call's own that has room for them, wherever they come from. Contract of frame.Put. -/
import Derived.Test.YtpkbjiakjofcnaaFHead
import Derived.OwnWalk
namespace Go.Proofs.Ytpkbjiakjofcnaa
open Go.RowKit

theorem src_bs {w : World} {A : Option Addr} {M : List UInt8} (c : Nat) (h : Bs w A M) : Src Try.prog 1 22 (.slice A M.length c) M.length (Lib.byteCells M) w := by
  cases A with
  | none =>
    have h0 : M = [] := by
      cases M with
      | nil => rfl
      | cons c L => obtain ⟨b, off, e, _⟩ := h (by simp); cases e
    subst h0
    exact Src.ofNil w Try.underlying22 c
  | some ad => exact Src.ofSlice w Try.underlying22 ad M.length c _ (by rw [Lib.byteCells_length]; omega) (bs_cells h) (bytes_one M)

theorem run_append_in (w : World) (tx ty : TypeId) (B g cap : Nat) (L M : List UInt8) (h : w.ownsRow B 5 1 (.slice (some ⟨g, 0, none⟩) L.length cap) L.length (Lib.byteCells L)) (x : Value) (hx : Src Try.prog 1 tx x M.length (Lib.byteCells M) w) (hroom : L.length + M.length ≤ cap) :
    ∃ w', (Builtin.append_ #[22, tx] ty #[.slice (some ⟨g, 0, none⟩) L.length cap, x]).run Try.prog w = .ok (.slice (some ⟨g, 0, none⟩) (L ++ M).length cap) w' ∧ w'.ownsRow B 5 1 (.slice (some ⟨g, 0, none⟩) (L ++ M).length cap) (L ++ M).length (Lib.byteCells (L ++ M)) ∧ Below B w w' := by
  obtain ⟨i0, hi, hz0, hz1, hz2⟩ := info_parts (show (Try.prog.info? 5).map (fun i => (i.zero, i.size, i.bytes)) = some (some (.int .u8 0), 1, 1) by kernel_rfl)
  have ht := Try.underlying22
  have hcs : Lib.byteCells L ++ Lib.byteCells M = Lib.byteCells (L ++ M) := by unfold Lib.byteCells; rw [List.map_append]
  have hll : (L ++ M).length = L.length + M.length := List.length_append
  have hbl : (Lib.byteCells (L ++ M)).length = L.length + M.length := by rw [Lib.byteCells_length, hll]
  have hx1 : Src Try.prog i0.size tx x M.length (Lib.byteCells M) w := by rw [hz1]; exact hx
  rcases h.2 with ⟨e, _⟩ | ⟨g', cap', cur, e, hbg, hg, hnc, hcm, hcz, htake⟩
  · injection e with e; cases e
  · injection e with e1 _ e3
    injection e1 with e1
    injection e1 with e1
    subst e1
    subst e3
    rw [Nat.mul_one] at hcz htake
    have hcl := Lib.byteCells_length L
    have hml := Lib.byteCells_length M
    have hfit : L.length * 1 + (Lib.byteCells M).length ≤ cur.size := by omega
    have hst := run_storeCells_at Try.prog g (L.length * 1) 5 (Lib.byteCells M) 0 cur w hg (by simpa using hfit) (bytes_one M)
    simp only [Nat.add_zero, Nat.mul_one] at hst
    have hr : (Builtin.append_ #[22, tx] ty #[.slice (some ⟨g, 0, none⟩) L.length cap, x]).run Try.prog w =
        .ok (.slice (some ⟨g, 0, none⟩) (L.length + M.length) cap) (w.setRow g (cur.toList.take L.length ++ Lib.byteCells M ++ cur.toList.drop (L.length + (Lib.byteCells M).length)).toArray) := by
      have hx2 := hx1.cells
      rw [hz1] at hx2
      rcases hx.kind with ⟨e', hk⟩ | hk <;> simp [Builtin.append_, run_underlying ht, run_underlying hk, sizeOf, typeInfo, hi, hz1, hx.len, hroom, hx2, Addr.add_lit, hst]
    refine ⟨_, by rw [hll]; exact hr, ⟨by rw [hbl, hll, Nat.mul_one], .inr ⟨g, cap, _, by rw [hll], hbg, setRow_heap w g cur _ _ _ hg, by omega, hcm, ?_, ?_⟩⟩, ⟨rfl, rfl, rfl, by simp, fun k hk => setRow_other w g k _ (by omega)⟩⟩
    · simp only [List.size_toArray, List.length_append, List.length_take, List.length_drop, Array.length_toList]
      omega
    · rw [htake, ← hcs]
      have hl2 : (L ++ M).length * 1 = (Lib.byteCells L ++ Lib.byteCells M).length := by rw [hcs, hbl, hll, Nat.mul_one]
      rw [hl2]
      exact List.take_left
theorem wpList_append_in {w : World} {ops : Array Oper} {rest : List Oper} {o : Oper} {a : Act} {Q : Exit → Act → World → Prop} (hgd : o.guard = none) (s x : Operand) (tx : TypeId)
    (hop : o.op = .call { callee := .builtin .append, args := #[s, x], argTypes := #[22, tx] }) (B g cap : Nat) (L M X : List UInt8) (hX : L ++ M = X) (hs : a.eval s = .slice (some ⟨g, 0, none⟩) L.length cap) (ho : w.ownsRow B 5 1 (.slice (some ⟨g, 0, none⟩) L.length cap) L.length (Lib.byteCells L))
    (vx : Value) (hx : a.eval x = vx) (hsrc : Src Try.prog 1 tx vx M.length (Lib.byteCells M) w) (hroom : L.length + M.length ≤ cap)
    (h : ∀ w', w'.ownsRow B 5 1 (.slice (some ⟨g, 0, none⟩) X.length cap) X.length (Lib.byteCells X) → Below B w w' → wpList Try.prog ops Q rest (a.put o.dst (.slice (some ⟨g, 0, none⟩) X.length cap)) w') : wpList Try.prog ops Q (o :: rest) a w := by
  refine wpList_plain hgd fun K hK => ?_
  obtain ⟨w', hr, h2, h3⟩ := run_append_in w tx o.type B g cap L M ho vx hsrc hroom
  rw [hX] at hr h2
  have hZ := h w' h2 h3
  generalize X.length = n at hr hZ
  unfold Oper.wp
  simp [execOp, hop, resolve, invoke, builtin, hs, hx, hr, Result.andThen]
  exact hK _ _ hZ

/-- Bytes and an error, both of the call's own. -/
def PutEnd (w : World) (X : List UInt8) (k : Int) (e : Ending) (w' : World) : Prop := ∃ A cap, e = .returned (.tuple #[.slice A X.length cap, .int .i64 k]) ∧ Bs w' A X ∧ (A = none → cap = 0) ∧ w'.ownsRow w.heap.size 5 1 (.slice A X.length cap) X.length (Lib.byteCells X) ∧ Below w.heap.size w w'

theorem own_low {B B' : Nat} {w : World} {e : TypeId} {n : Nat} {v : Value} {xs : List Value} (h : w.ownsRow B e 1 v n xs) (hB : B' ≤ B) : w.ownsRow B' e 1 v n xs := by
  obtain ⟨h1, h2⟩ := h
  refine ⟨h1, ?_⟩
  rcases h2 with h | ⟨g, cap, cur, e1, e2, rest⟩
  · exact .inl h
  · exact .inr ⟨g, cap, cur, e1, by omega, rest⟩
theorem put_end {w w1 : World} {A : Option Addr} {cap : Nat} {X : List UInt8} {k : Int} (h : w1.ownsRow w.heap.size 5 1 (.slice A X.length cap) X.length (Lib.byteCells X)) (hb : Below w.heap.size w w1) : PutEnd w X k (.returned (.tuple #[.slice A X.length cap, .int .i64 k])) w1 := by
  obtain ⟨A1, cap1, e, hB, hn, ho, hb⟩ := own_bytes h hb
  injection e with e
  injection e with e1 _ e2
  subst e1
  subst e2
  exact ⟨A, cap, rfl, hB, hn, ho, hb⟩

set_option maxHeartbeats 1000000 in
theorem put_yes (A B : Option Addr) (L M : List UInt8) (ca cb : Nat) (w : World) (hl : L.length ≤ 140737488351232) (hok : okF M) (hA : Bs w A L) (hB : Bs w B M) :
    Calls Try.prog 10 #[.slice A L.length ca, .slice B M.length cb] w (PutEnd w (L ++ putF M) 0) := by
  obtain ⟨i0, hi, hz0, hz1, hz2⟩ := info_parts (show (Try.prog.info? 5).map (fun i => (i.zero, i.size, i.bytes)) = some (some (.int .u8 0), 1, 1) by kernel_rfl)
  obtain ⟨hm1, hm2⟩ := hok
  have cf := fits_any (M.length : Int) w
  rw [fitB_yes (by omega) (by omega)] at cf
  have ch := head_any B M cb w (by omega) hB
  obtain ⟨h, hh⟩ : ∃ h, h = headF M := ⟨_, rfl⟩
  have hhl := headF_len M
  have hp := putI_four hm2
  obtain ⟨X2, hX2⟩ : ∃ X2, L ++ h = X2 := ⟨_, rfl⟩
  obtain ⟨X3, hX3⟩ : ∃ X3, L ++ putF M = X3 := ⟨_, rfl⟩
  have hX23 : X2 ++ M = X3 := by rw [← hX2, ← hX3, hh]; unfold putF; rw [List.append_assoc]
  have hl2 : X2.length = L.length + h.length := by rw [← hX2, List.length_append]
  rw [← hh] at ch hhl
  have H2 := Lib.hid hX2
  have H23 := Lib.hid hX23
  have HL2 := Lib.hid hl2
  have hhn : h.length ≤ 8 := by omega
  have hh1 : 1 ≤ h.length := by omega
  rw [hX3]
  clear hhl hp hh hX2 hX3 hX23 hl2
  obtain ⟨cp, hcp⟩ : ∃ cp, L.length + h.length + M.length = cp := ⟨_, rfl⟩
  have HC := Lib.hid hcp
  clear hcp
  go_enter Try.func10, Try.ntmps10
  go_wp2_with fail
  refine cf.mono ?_
  rintro e w' ⟨rfl, rfl⟩
  clear cf
  go_wp2_with fail
  refine ch.mono ?_
  rintro e w1 ⟨A1, cap1, rfl, hB1, _, _, hb1⟩
  have hs1 := hb1.size
  have HL1 := Lib.hid (hA.below hb1)
  have HM1 := Lib.hid (hB.below hb1)
  have HH1 := Lib.hid hB1
  have HQ1 := Lib.hid hb1
  clear ch hB1 hb1 hA hB
  go_wp2_with (first
    | (at_make; refine wpList_make_own _ rfl _ _ 22 rfl w1.heap.size 5 i0 _ 1 Try.underlying22 hi hz0 hz1 .i64 .i64 _ cp rfl rfl (by rw [← HC.out]; omega) (by rw [hz2, ← HC.out]; omega) (by rw [← HC.out]; unfold maxLen; omega) (Nat.le_refl _) ?_; intro w2 ho2 hg2; have HB2 := Lib.hid (below_own (v := .slice none 0 0) (World.ownsRow_nil w1 w1.heap.size 5 1) hg2 (Nat.le_refl _)); have HO2 := Lib.hid ho2; clear ho2 hg2)
    | (at_builtin; refine wpList_append_in rfl (.tmp 25) (.tmp 26) 22 rfl w1.heap.size w1.heap.size cp [] L L rfl rfl HO2.out _ rfl (src_bs _ (HL1.out.below HB2.out)) (by rw [← HC.out]; simp; omega) ?_; intro w3 ho3 hb3; have HB3 := Lib.hid (HB2.out.trans hb3); have HO3 := Lib.hid ho3; clear ho3 hb3 HO2 HB2)
    | (at_builtin; refine wpList_append_in rfl (.tmp 28) (.tmp 29) 22 rfl w1.heap.size w1.heap.size cp L h X2 H2.out rfl HO3.out _ rfl (src_bs _ (HH1.out.below HB3.out)) (by rw [← HC.out]; omega) ?_; intro w4 ho4 hb4; have HB4 := Lib.hid (HB3.out.trans hb4); have HO4 := Lib.hid ho4; clear ho4 hb4 HO3 HB3)
    | (at_builtin; refine wpList_append_in rfl (.tmp 31) (.tmp 32) 22 rfl w1.heap.size w1.heap.size cp X2 M X3 H23.out rfl HO4.out _ rfl (src_bs _ (HM1.out.below HB4.out)) (by rw [← HC.out, HL2.out]; omega) ?_; intro w5 ho5 hb5; have HB5 := Lib.hid (HB4.out.trans hb5); have HO5 := Lib.hid ho5; clear ho5 hb5 HO4 HB4))
  go_ret2
  exact put_end (own_low HO5.out hs1) (HQ1.out.trans (HB5.out.mono hs1))
theorem put_no (A B : Option Addr) (L M : List UInt8) (ca cb : Nat) (w : World) (hl : L.length ≤ 140737488351232) (hok : ¬ okF M) (hm : M.length ≤ 140737488351232) (hA : Bs w A L) (hcap : A = none → ca = 0) :
    Calls Try.prog 10 #[.slice A L.length ca, .slice B M.length cb] w (PutEnd w L 1) := by
  have cf := fits_any (M.length : Int) w
  rw [fitB_no (fun h => hok ⟨by omega, by omega⟩)] at cf
  have cc := clone_any A L ca w hl hA hcap
  clear hA hcap hok
  go_enter Try.func10, Try.ntmps10
  go_wp2_with fail
  refine cf.mono ?_
  rintro e w' ⟨rfl, rfl⟩
  clear cf
  go_wp2_with fail
  refine cc.mono ?_
  rintro e w1 ⟨A1, cap1, rfl, _, _, hown, hb1⟩
  have HO := Lib.hid hown
  clear cc hown
  go_wp2_with fail
  go_ret2
  exact put_end HO.out hb1
end Go.Proofs.Ytpkbjiakjofcnaa
