/- A table is put as bytes. -/
import Derived.Test.YtindkpfmflcibaaGreatDoorMSsY
import Derived.Test.YtindkpfmflcibaaGreatDoorMRegInv
namespace Go.Proofs.YtindkpfmflcibaaGreatDoor
open Go.RowKit Go.Maps Go.Sort Go.Shelf
set_option linter.unusedSimpArgs false

/-- A row of bytes of the call's own, not empty; the block d is another one. -/
structure OwnRow (w : World) (B g cap d : Nat) (M : List UInt8) : Prop where
  own : w.ownsRow B 5 1 (.slice (some ⟨g, 0, none⟩) M.length cap) M.length (Lib.byteCells M)
  ge : B ≤ g
  lt : g < w.heap.size
  ne : d ≠ g
/-- A list of bytes is appended to it. -/
theorem app_row {P : Program} {ops : Array Oper} {rest : List Oper} {o : Oper} {a : Act} {Q : Exit → Act → World → Prop} {w : World} (hgd : o.guard = none) (s x : Operand) (t : TypeId)
    (ho : o.op = .call { callee := .builtin .append, args := #[s, x], argTypes := #[t, t] })
    (B : Nat) (i : TypeInfo) (ht : P.underlying t = some (.slice 5)) (hi : P.info? 5 = some i) (hz : i.zero = some (.int .u8 0)) (hsize : i.size = 1) (hby : i.bytes = 1)
    (M N : List UInt8) (g cap d : Nat) (hs : a.eval s = .slice (some ⟨g, 0, none⟩) M.length cap) (hown : OwnRow w B g cap d M) (A : Option Addr) (c : Nat) (hx : a.eval x = .slice A N.length c) (hN : 1 ≤ N.length) (hB : Bs w A N) (h63 : M.length + N.length ≤ 140737488355328) (hd : d < w.heap.size)
    (h : ∀ g' cap' w', OwnRow w' B g' cap' d (M ++ N) → w.grownBy w' (some g) → wpList P ops Q rest (a.put o.dst (.slice (some ⟨g', 0, none⟩) (M ++ N).length cap')) w') : wpList P ops Q (o :: rest) a w := by
  obtain ⟨b, off, rfl, -⟩ := hB (by omega)
  refine wpList_append_lies w hgd s x t ho B 5 i (.int .u8 0) 1 1 ht hi hz hsize hby rfl (by decide) _ M.length (Lib.byteCells M) hs hown.own ⟨b, off, none⟩ N.length c (Lib.byteCells N) hx (by rw [Lib.byteCells_length]; omega) (bs_cells hB) (bytes_one N) hN (by unfold maxLen; omega) (by omega) (Nat.le_trans hown.ge (Nat.le_of_lt hown.lt)) w.heap.size rfl ?_
  intro g' cap' w' h1 h2 h3 h4
  have e : (M ++ N).length = M.length + N.length := List.length_append ..
  have e2 : Lib.byteCells (M ++ N) = Lib.byteCells M ++ Lib.byteCells N := by simp [Lib.byteCells]
  have := h g' cap' w' ⟨by rw [e, e2]; exact h1, ?_, h4, ?_⟩ h2
  · rwa [e] at this
  · rcases h3 with h3 | h3
    · injection h3 with h3; have h3 : g = g' := h3; have := hown.ge; omega
    · have := hown.ge; have := hown.lt; omega
  · rcases h3 with h3 | h3
    · injection h3 with h3; have h3 : g = g' := h3; have := hown.ne; omega
    · omega
theorem is_grown {w w' : World} {A : Option Addr} {l : List Int} {g : Nat} (h : Is w A l) (hg : w.grownBy w' (some g)) (hd : ∀ a, A = some a → a.block ≠ g) : Is w' A l := fun h0 => by
  obtain ⟨b, off, rfl, hc⟩ := h h0
  refine ⟨b, off, rfl, fun j hj => ?_⟩
  have hne := hd _ rfl
  have hlt : b < w.heap.size := by
    rcases Nat.lt_or_ge b w.heap.size with h1 | h1
    · exact h1
    · have := hc j hj
      unfold World.cell? at this
      rw [Array.getElem?_eq_none h1] at this
      cases this
  exact (hg.cell_far ⟨b, off + j, none⟩ hlt (fun e => hne (by injection e))).trans (hc j hj)
theorem putI_of_len {L : List Se} (h : L.length ≤ 64) : 1 ≤ (putI (L.length : Int)).length ∧ (putI (L.length : Int)).length ≤ 10 := ⟨putI_pos _, putI_ten (v := (L.length : Int)) (by omega) (by omega)⟩
theorem OwnRow.later {w w' : World} {B g cap d : Nat} {M : List UInt8} (h : OwnRow w B g cap d M) (hb : Below w.heap.size w w') : OwnRow w' B g cap d M := ⟨own_later h.own hb, h.ge, Nat.lt_of_lt_of_le h.lt hb.size, h.ne⟩
/-- What each operation of the region leaves in which the number of sessions is put. -/
def PnU (T r : Nat) (k : Int) (B : Nat) (M : List UInt8) (j : Nat) (v : Value) (w : World) : Prop :=
  match j with
  | 0 => v = .slice none 0 0
  | 1 => v = .slice none 0 0
  | 2 => v = .int .i64 0
  | 3 => v = .slice none 0 0
  | 4 => v = .int .i64 0
  | 5 => v = .slice none 0 0
  | 6 => v = .pointer (some ⟨T, 0, none⟩)
  | 7 => v = .pointer (some ⟨T, 0, none⟩)
  | 8 => v = .pointer (some ⟨T, 1, none⟩)
  | 9 => v = .map (some r)
  | 10 => v = .int .i64 k
  | 11 => ∃ A cap, v = .slice A M.length cap ∧ Bs w A M
  | 12 => ∃ g cap, v = .slice (some ⟨g, 0, none⟩) M.length cap ∧ B ≤ g ∧ g < w.heap.size ∧ w.ownsRow B 5 1 (.slice (some ⟨g, 0, none⟩) M.length cap) M.length (Lib.byteCells M)
  | _ => True
theorem PnU.keep (T r : Nat) (k : Int) (B : Nat) (M : List UInt8) : ∀ (j : Nat) (v : Value) (w w' : World), Below w.heap.size w w' → PnU T r k B M j v w → PnU T r k B M j v w'
  | 0, _, _, _, _, h => h
  | 1, _, _, _, _, h => h
  | 2, _, _, _, _, h => h
  | 3, _, _, _, _, h => h
  | 4, _, _, _, _, h => h
  | 5, _, _, _, _, h => h
  | 6, _, _, _, _, h => h
  | 7, _, _, _, _, h => h
  | 8, _, _, _, _, h => h
  | 9, _, _, _, _, h => h
  | 10, _, _, _, _, h => h
  | 11, _, _, _, hb, ⟨A, cap, e, h⟩ => ⟨A, cap, e, h.below hb⟩
  | 12, _, _, _, hb, ⟨g, cap, e, h1, h2, h3⟩ => ⟨g, cap, e, h1, Nat.lt_of_lt_of_le h2 hb.size, own_later h3 hb⟩
  | _ + 13, _, _, _, _, _ => trivial
theorem row_small {most : Nat} {L : List Se} (h : Tb most L) {P0 : List UInt8} (hp : P0.length ≤ 10) {j : Nat} (hj : j ≤ 64) : (P0 ++ (L.take j).flatMap seB).length ≤ 64012810 := by
  have h1 := seflat_len h j
  have h2 : j * 1000200 ≤ 64 * 1000200 := Nat.mul_le_mul_right _ hj
  rw [show 64 * 1000200 = 64012800 by decide] at h2
  rw [List.length_append]
  have h3 := Nat.le_trans h1 h2
  omega
set_option maxHeartbeats 2000000 in
set_option maxRecDepth 100000 in
theorem stput_any (T r most : Nat) (L : List Se) (w : World) (h : Tab w T r most L) :
    Calls Tryz.prog 21 #[.pointer (some ⟨T, 0, none⟩), .slice none 0 0] w (OwnBytes w (tabB L)) := by
  have hl : L.length ≤ 64 := Nat.le_trans h.t.len h.t.hi
  have hlt := h.lt
  have hc1 := h.c1
  have hlen := fun (W : World) hW => lenT (h.later (w' := W) hW).m
  have hlen1 := hlen w.drew (below_drewN (Below.refl _ _) 1)
  have cI := fun W hW => stids_any T r most L W (h.later hW)
  have cP := fun W => put_nil (L.length : Int) W (by omega) (by omega)
  have hpl := putI_of_len hl
  have H := Lib.hid h
  obtain ⟨i0, hi, hz0, hz1, hz2⟩ := info_parts (show (Tryz.prog.info? 5).map (fun i => (i.zero, i.size, i.bytes)) = some (some (.int .u8 0), 1, 1) by kernel_rfl)
  obtain ⟨P0, hP0⟩ : ∃ P0, putI (L.length : Int) = P0 := ⟨_, rfl⟩
  rw [hP0] at hpl
  simp only [hP0] at cP
  clear h
  go_enter Tryz.func21, Tryz.ntmps21
  go_wp2_with fail
  refine wp_region_inv 13 39 [7, 8, 9, 10, 11, 12, 13, 14, 15, 16, 17, 18, 19] (PnU T r (L.length : Int) w.heap.size P0) (by kernel_rfl) rfl (by kernel_rfl) (PnU.keep T r _ _ P0) ?step ?last ?done
  case done => intro h; cases h
  case step =>
    refine ⟨?_, ?_, ?_, ?_, ?_, ?_, ?_, ?_, ?_, ?_, ?_, ?_, ?_, trivial⟩
    · intro a wz hF hB hdep K hK
      have e1 : a.tmps[1]?.getD undef = .slice none 0 0 := hF.at 1 (by decide)
      go_simp
      exact hK.out _ _ (Below.refl _ _) rfl
    · intro a wz hF hB hdep K hK
      have e1 : a.tmps[1]?.getD undef = .slice none 0 0 := hF.at 1 (by decide)
      go_simp
      exact hK.out _ _ (Below.refl _ _) rfl
    · intro a wz hF hB hdep K hK
      have e8 : a.tmps[8]?.getD undef = .slice none 0 0 := (slot_opt a 8).trans (hdep 1 (by kernel_rfl))
      go_simp
      exact hK.out _ _ (Below.refl _ _) rfl
    · intro a wz hF hB hdep K hK
      have e1 : a.tmps[1]?.getD undef = .slice none 0 0 := hF.at 1 (by decide)
      go_simp
      exact hK.out _ _ (Below.refl _ _) rfl
    · intro a wz hF hB hdep K hK
      have e10 : a.tmps[10]?.getD undef = .slice none 0 0 := (slot_opt a 10).trans (hdep 3 (by kernel_rfl))
      go_simp
      exact hK.out _ _ (Below.refl _ _) rfl
    · intro a wz hF hB hdep K hK
      have e7 : a.tmps[7]?.getD undef = .slice none 0 0 := (slot_opt a 7).trans (hdep 0 (by kernel_rfl))
      have e9 : a.tmps[9]?.getD undef = .int .i64 0 := (slot_opt a 9).trans (hdep 2 (by kernel_rfl))
      have e11 : a.tmps[11]?.getD undef = .int .i64 0 := (slot_opt a 11).trans (hdep 4 (by kernel_rfl))
      go_simp
      exact hK.out _ _ (Below.refl _ _) rfl
    · intro a wz hF hB hdep K hK
      have e0 : a.tmps[0]?.getD undef = .pointer (some ⟨T, 0, none⟩) := hF.at 0 (by decide)
      go_simp
      exact hK.out _ _ (Below.refl _ _) rfl
    · intro a wz hF hB hdep K hK
      have e13 : a.tmps[13]?.getD undef = .pointer (some ⟨T, 0, none⟩) := (slot_opt a 13).trans (hdep 6 (by kernel_rfl))
      go_simp
      exact hK.out _ _ (Below.refl _ _) rfl
    · intro a wz hF hB hdep K hK
      have e14 : a.tmps[14]?.getD undef = .pointer (some ⟨T, 0, none⟩) := (slot_opt a 14).trans (hdep 7 (by kernel_rfl))
      go_simp
      exact hK.out _ _ (Below.refl _ _) rfl
    · intro a wz hF hB hdep K hK
      have e15 : a.tmps[15]?.getD undef = .pointer (some ⟨T, 1, none⟩) := (slot_opt a 15).trans (hdep 8 (by kernel_rfl))
      have hcz := (H.out.later hB).c1
      go_simp
      exact hK.out _ _ (Below.refl _ _) rfl
    · intro a wz hF hB hdep K hK
      have e16 : a.tmps[16]?.getD undef = .map (some r) := (slot_opt a 16).trans (hdep 9 (by kernel_rfl))
      have hlz := hlen wz hB
      go_simp
      exact hK.out _ _ (Below.refl _ _) rfl
    · intro a wz hF hB hdep K hK
      have e17 : a.tmps[17]?.getD undef = .int .i64 (L.length : Int) := (slot_opt a 17).trans (hdep 10 (by kernel_rfl))
      go_simp
      (with_reducible refine (cP _).mono ?_)
      rintro e w2 ⟨A, cap, rfl, hB2, _, _, b2⟩
      exact hK.out _ _ b2 ⟨A, cap, rfl, hB2⟩
    · intro a wz hF hB hdep K hK
      obtain ⟨A, cap, h18, hB18⟩ := hdep 11 (by kernel_rfl)
      have h12 : slot a 12 = .slice none 0 0 := hdep 5 (by kernel_rfl)
      obtain ⟨b, off, rfl, -⟩ := hB18 (by omega)
      refine wp_append_lies wz (.tmp 12) (.tmp 18) 35 rfl w.heap.size 5 i0 (.int .u8 0) 1 1 Tryz.underlying35 hi hz0 hz1 hz2 rfl (by decide) (.slice none 0 0) 0 [] h12 (World.ownsRow_nil _ _ _ _) ⟨b, off, none⟩ P0.length cap (Lib.byteCells P0) h18 (by rw [Lib.byteCells_length]; omega) (bs_cells hB18) (bytes_one P0) (by omega) (by unfold maxLen; omega) (by omega) hB.size wz.heap.size rfl ?_
      intro g cap' w2 h1 h2 h3 h4
      rw [Nat.zero_add] at h1 ⊢
      rw [List.nil_append] at h1
      refine hK.out _ _ ((Below.refl _ _).grown h2 (Nat.le_refl _) (by simp [Value.ownBlock])) ⟨g, cap', rfl, ?_, h4, h1⟩
      have := hB.size
      rcases h3 with h3 | h3
      · cases h3
      · omega
  case last =>
    intro o ho a w1 hF hB hdep
    obtain rfl := Option.some.inj ho
    obtain ⟨g, cap, h19, hg0, hg1, hown⟩ := hdep 12 (by decide)
    have hl0 := hF.lit
    obtain ⟨σ, hσ⟩ : ∃ σ, slot a = σ := ⟨_, rfl⟩
    rw [hσ] at hl0 h19
    replace h19 : σ 19 = .slice (some ⟨g, 0, none⟩) P0.length cap := h19
    clear hσ hF hdep ho
    subst hl0
    simp only [lay, List.foldl_cons, List.foldl_nil, List.setIfInBounds_toArray, List.set_cons_zero, List.set_cons_succ, h19]
    have cI1 := cI w1 hB
    have HB1 := Lib.hid hB
    have HO1 := Lib.hid hown
    obtain ⟨Z, hZ⟩ : ∃ Z, L.map Se.id = Z := ⟨_, rfl⟩
    have hZl : Z.length = L.length := by rw [← hZ]; simp
    rw [hZ] at cI1
    have HZ := Lib.hid hZ
    obtain ⟨n, hn⟩ : ∃ n, Z.length = n := ⟨_, rfl⟩
    have hnl : n = L.length := by omega
    have HNL := Lib.hid hnl
    have HN := Lib.hid hn
    clear hZ hB cI hlen hlen1 hown hc1 cP
    go_wp2_with fail
    refine cI1.mono ?_
    rintro e w2 ⟨A2, cap2, rfl, hcap, hI2, _, ho2, hb2⟩
    rw [hn] at *
    have HB2 := Lib.hid (below_to HB1.out hb2)
    obtain ⟨d, hd, hdg, hdw⟩ : ∃ d, (∀ a, A2 = some a → a.block = d) ∧ d ≠ g ∧ d < w2.heap.size := by
      have := hb2.size
      rcases ho2.2 with ⟨hv, _⟩ | ⟨g2, c2, cur, hv, hb, hg, _⟩
      · injection hv with hv
        subst hv
        exact ⟨T, (fun a h => nomatch h), by omega, by omega⟩
      · injection hv with hv
        subst hv
        have hlt2 := (Array.getElem?_eq_some_iff.1 hg).1
        exact ⟨g2, (fun a h => by injection h with h; rw [← h]), by omega, hlt2⟩
    have HR2 : Hid (OwnRow w2 w.heap.size g cap d P0) := Lib.hid ⟨own_later HO1.out hb2, hg0, Nat.lt_of_lt_of_le hg1 hb2.size, hdg⟩
    have HI2 := Lib.hid hI2
    have HD := Lib.hid hd
    clear ho2 hI2 hd cI1 hb2 HO1 HB1
    go_wp2_with fail
    go_loopg [1, 23] (n) (fun m s1 s23 wr => ∃ (j g cap : Nat) (M : List UInt8), j + m = n ∧ s23 = .int .i64 (j : Int) ∧ s1 = .slice (some ⟨g, 0, none⟩) M.length cap ∧ Hid (M = P0 ++ (L.take j).flatMap seB) ∧ Hid (OwnRow wr w.heap.size g cap d M) ∧ Hid (Is wr A2 Z) ∧ Hid (d < wr.heap.size) ∧ Hid (Below w.heap.size w wr))
    case atStart => exact ⟨0, g, cap, P0, by omega, rfl, rfl, Lib.hid (by simp), HR2, HI2, Lib.hid hdw, HB2⟩
    case round =>
      obtain ⟨j, g, cap, M, hjm, rfl, rfl, HM, HR, HI, HDW, HW⟩ := hrel
      have HJM := Lib.hid hjm
      clear HR2 HI2 HB2 hdw hg0 hg1 hdg
      by_cases hj : j < n
      · have hjz : (j : Int) < (n : Int) := by omega
        have hjl : j < L.length := by omega
        have hjZ : j < Z.length := by omega
        obtain ⟨b, off, rfl, hc⟩ := Ss.is_at HI.out hjZ
        have hs := List.getElem?_eq_getElem hjl
        have hzs : Z[j] = L[j].id := by
          have := HZ.out
          subst this
          simp
        rw [hzs] at hc
        have hmem := List.mem_of_getElem? hs
        obtain ⟨⟨l1, l2⟩, cS⟩ := H.out.t.row hmem
        have hlk := fun i => lookupT1 (i := i) (H.out.later HW.out).m H.out.t.up
        have hlk1 : valS L[j].id L = L[j].v := by unfold valS; rw [findS_of H.out.t.up hmem rfl]
        have hcz := (H.out.later HW.out).c1
        have HSN := Lib.hid (seflat_snoc hs)
        have hML : M.length ≤ 64012810 := HM.out ▸ row_small H.out.t hpl.2 (show j ≤ 64 by omega)
        clear hs hmem hzs hjm
        generalize L[j] = s at *
        replace hlk := hlk s.id
        rw [hlk1] at hlk
        clear hlk1
        obtain ⟨sv, hsv⟩ : ∃ v, s.v = v := ⟨_, rfl⟩
        rw [hsv] at hlk cS
        generalize s.id = si at *
        go_wp2_with fail
        refine (cS wr).mono ?_
        rintro e w3 ⟨A3, cap3, rfl, hB3, _, _, b3⟩
        have hR3 := HR.out.later b3
        have hd3 := Nat.lt_of_lt_of_le HDW.out b3.size
        have HI3 := Lib.hid (HI.out.below b3)
        have HW3 := Lib.hid (below_to HW.out b3)
        have hsz : M.length + (seB s).length ≤ 140737488355328 := by omega
        clear hc hlk hcz cS b3
        go_wp2_with (at_builtin; refine app_row rfl (.tmp 27) (.tmp 35) 35 rfl w.heap.size i0 Tryz.underlying35 hi hz0 hz1 hz2 M (seB s) g cap d rfl hR3 A3 cap3 rfl l1 hB3 hsz hd3 ?_; intro g' cap' w4 hR4 hg4)
        have HI4 := Lib.hid (is_grown HI3.out hg4 (fun a ha => by rw [HD.out a ha]; exact hR3.ne))
        have HW4 : Hid (Below w.heap.size w w4) := Lib.hid (HW3.out.grown hg4 HW3.out.size (by intro b hb; injection hb with hb; have := hR3.ge; omega))
        have HD4 : Hid (d < w4.heap.size) := Lib.hid (Nat.lt_of_lt_of_le hd3 hg4.size)
        have HR4 := Lib.hid hR4
        have HM4 : Hid (M ++ seB s = P0 ++ (L.take (j + 1)).flatMap seB) := Lib.hid (by rw [HSN.out, HM.out, List.append_assoc])
        clear hR4 hg4 hR3 hd3 hsz hB3 l1 l2 hML
        go_wp2_with fail
        go_roundg (n - (j + 1))
        case measure => have := HJM.out; omega
        case rel => exact ⟨j + 1, g', cap', M ++ seB s, by have := HJM.out; omega, by go_num, by rw [List.length_append], HM4, HR4, HI4, HD4, HW4⟩
      · have hjn : j = n := by omega
        have HE : Hid (M = tabB L) := Lib.hid (by rw [HM.out, hjn, hnl, List.take_length, ← hP0]; rfl)
        have hjz : ¬ (j : Int) < (n : Int) := by omega
        have hjz2 : ¬ (j : Int) < (L.length : Int) := by omega
        go_wp2_with fail
        go_ret
        have := HE.out
        subst this
        exact own_bytes HR.out.own HW.out
end Go.Proofs.YtindkpfmflcibaaGreatDoor
