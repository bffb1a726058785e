/- palaverlaw00.Expr: a copy of an expression that is not too deep, in new memory. -/
import Derived.Test.YtbbblmedoagncaaGreatDoorGX
import Derived.Test.YtbbblmedoagncaaGreatDoorGT
import Derived.Test.YtbbblmedoagncaaGreatDoorMFitE
import Derived.Test.YtbbblmedoagncaaGreatDoorGO
import Derived.Test.YtbbblmedoagncaaGreatDoorGB
import Derived.Test.YtbbblmedoagncaaGreatDoorMLexRL
import Derived.Test.YtbbblmedoagncaaGreatDoorGJ
import Derived.Test.YtbbblmedoagncaaGreatDoorGL
import Derived.Deep.LoopGhost
namespace Go.Proofs.YtbbblmedoagncaaGreatDoor
open Go.RowKit

/-- While the kids are copied. -/
def KCop (w : World) (ks : List Ex) (j : Nat) (v : Value) (wr : World) : Prop := Grow wr w.heap.size v (ks.take j) ∧ Below w.heap.size w wr
/-- How the copy ends. -/
def CopEnd (w : World) (e : Ex) (en : Ending) (w' : World) : Prop :=
  Below w.heap.size w w' ∧ ∃ ao c, en = .returned (EV e.op e.num ⟨e.str.toArray⟩ (.slice ao e.kids.length c)) ∧ ExIn w' (Up w.heap.size) e (EV e.op e.num ⟨e.str.toArray⟩ (.slice ao e.kids.length c))
set_option maxHeartbeats 4000000 in
set_option maxRecDepth 100000 in
theorem expr_all : ∀ (F : Nat) (e : Ex), nodes e ≤ F → nodes e ≤ 100000 → ∀ (v : Value) (S : Nat → Prop) (w : World) (d : Nat), ExIn w S e v → d + deepE e ≤ 41 →
    Calls Tryz.prog 35 #[v, .int .i64 (d : Int)] w (CopEnd w e)
  | 0, e, hF, _, _, _, _, _, _, _ => absurd hF (by have := nodes_pos e; omega)
  | F + 1, .mk op m s ks, hF, hN, v, S, w, d, hv, hd => by
    have IH := expr_all F
    have hkl := nodesL_len ks
    have hnl : nodesL ks + 1 ≤ 100000 := by rw [nodes] at hN; omega
    have hnF : nodesL ks ≤ F := by rw [nodes] at hF; omega
    rw [deepE] at hd
    obtain ⟨ao, cap, rfl, h2, h3, hr, hk⟩ := hv.get
    unfold Ex.op Ex.num Ex.str Ex.kids at *
    dsimp only at *
    obtain ⟨i0, hi, hz0, hz1, hz2⟩ := info_parts (show (Tryz.prog.info? 24).map (fun i => (i.zero, i.size, i.bytes)) = some (some (.agg #[.int .i64 0, .int .i64 0, .string ⟨#[]⟩, .slice none 0 0]), 4, 56) by kernel_rfl)
    have hX := four_new w (.int .i64 op) (.int .i64 m) (.string ⟨s.toArray⟩) (.slice ao ks.length cap) 24
    have hbX := below_alloc w (.cells #[.int .i64 op, .int .i64 m, .string ⟨s.toArray⟩, .slice ao ks.length cap] 24)
    have hsX := alloc_size w (.cells #[.int .i64 op, .int .i64 m, .string ⟨s.toArray⟩, .slice ao ks.length cap] 24)
    have hkX : 0 < ks.length → ∃ g2 o, ao = some ⟨g2, o, none⟩ ∧ S g2 ∧ g2 < (w.alloc (.cells #[.int .i64 op, .int .i64 m, .string ⟨s.toArray⟩, .slice ao ks.length cap] 24)).heap.size ∧ RowIn (w.alloc (.cells #[.int .i64 op, .int .i64 m, .string ⟨s.toArray⟩, .slice ao ks.length cap] 24)) S g2 o ks := fun h0 => by
      obtain ⟨g2, o, a, b, c, r⟩ := hk h0
      exact ⟨g2, o, a, b, Nat.lt_of_lt_of_le c hbX.size, RowIn.stays (.of hbX) ks g2 o b c r⟩
    obtain ⟨wX, hwX⟩ : ∃ wX, w.alloc (.cells #[.int .i64 op, .int .i64 m, .string ⟨s.toArray⟩, .slice ao ks.length cap] 24) = wX := ⟨_, rfl⟩
    rw [hwX] at hX hbX hkX hsX
    have hF := four_new wX (.int .i64 0) (.int .i64 0) (.string ⟨#[]⟩) (.slice none 0 0) 24
    have hbF := below_alloc wX (.cells #[.int .i64 0, .int .i64 0, .string ⟨#[]⟩, .slice none 0 0] 24)
    have hsF := alloc_size wX (.cells #[.int .i64 0, .int .i64 0, .string ⟨#[]⟩, .slice none 0 0] 24)
    have hX := hX.later hbF
    have hkX : 0 < ks.length → ∃ g2 o, ao = some ⟨g2, o, none⟩ ∧ S g2 ∧ g2 < (wX.alloc (.cells #[.int .i64 0, .int .i64 0, .string ⟨#[]⟩, .slice none 0 0] 24)).heap.size ∧ RowIn (wX.alloc (.cells #[.int .i64 0, .int .i64 0, .string ⟨#[]⟩, .slice none 0 0] 24)) S g2 o ks := fun h0 => by
      obtain ⟨g2, o, a, b, c, r⟩ := hkX h0
      exact ⟨g2, o, a, b, Nat.lt_of_lt_of_le c hbF.size, RowIn.stays (.of hbF) ks g2 o b c r⟩
    have hbX := below_to hbX hbF
    obtain ⟨wF, hwF⟩ : ∃ wF, wX.alloc (.cells #[.int .i64 0, .int .i64 0, .string ⟨#[]⟩, .slice none 0 0] 24) = wF := ⟨_, rfl⟩
    rw [hwF] at hF hX hbF hkX hsF hbX
    rw [hsX] at hF
    have HEND : Hid (∀ (ao3 : Option Addr) (c3 : Nat) (wr : World), Below wF.heap.size wF wr → ks.length ≤ c3 → (0 < ks.length → ∃ b, ao3 = some ⟨b, 0, none⟩ ∧ wF.heap.size ≤ b ∧ b < wr.heap.size ∧ RowIn wr (Up wF.heap.size) b 0 ks) →
        CopEnd w (.mk op m s ks) (.returned (EV op m ⟨s.toArray⟩ (.slice ao3 ks.length c3))) (set4 (wr.setCell ⟨w.heap.size, 3, none⟩ (.slice ao3 ks.length c3)) (w.heap.size + 1) (.int .i64 op) (.int .i64 m) (.string ⟨s.toArray⟩) (.slice ao3 ks.length c3))) := Lib.hid (fun ao3 c3 wr hB hc hrow =>
      ⟨((((((below_to hbX hB).setCell (p := ⟨w.heap.size, 3, none⟩) (Nat.le_refl _) _).setCell (p := ⟨w.heap.size + 1, 0, none⟩) (Nat.le_succ _) _).setCell (p := ⟨w.heap.size + 1, 1, none⟩) (Nat.le_succ _) _).setCell (p := ⟨w.heap.size + 1, 2, none⟩) (Nat.le_succ _) _).setCell (p := ⟨w.heap.size + 1, 3, none⟩) (Nat.le_succ _) _), ao3, c3, rfl, by
        have hst := (Stays.set (S := Up wF.heap.size) (g := w.heap.size) wr 3 (.slice ao3 ks.length c3) (by show ¬ wF.heap.size ≤ w.heap.size; omega)).trans (Stays.set4 (g := w.heap.size + 1) _ (.int .i64 op) (.int .i64 m) (.string ⟨s.toArray⟩) (.slice ao3 ks.length c3) (by show ¬ wF.heap.size ≤ w.heap.size + 1; omega))
        refine (ExIn.mk (S := Up wF.heap.size) hr hc (by omega) (fun h0 => ?_)).wide (fun b hb _ => by have : wF.heap.size ≤ b := hb; show w.heap.size ≤ b; omega)
        obtain ⟨b, hb1, hb2, hb3, hb4⟩ := hrow h0
        exact ⟨b, 0, hb1, hb2, Nat.lt_of_lt_of_le hb3 hst.size, RowIn.stays hst ks b 0 hb2 hb3 hb4⟩⟩)
    have HR : Hid (KCop wF ks 0 (.slice none 0 0) wF) := Lib.hid ⟨by rw [List.take_zero]; exact Grow.nil _ _, Below.refl _ _⟩
    have HK := Lib.hid hkX
    have HX := Lib.hid hX
    have HF := Lib.hid hF
    obtain ⟨-, x0, x1, x2, x3, -⟩ := hX
    have hdk : 0 < ks.length → d + 1 + deepL ks ≤ 41 := fun _ => by omega
    have HDK : Hid (∀ k ∈ ks, d + 1 + deepE k ≤ 41) := Lib.hid (fun k hk => by have := deep_kid hk; omega)
    have HD : Hid (0 < ks.length → d < 40) := Lib.hid (fun h => by
      have h1 := hdk h
      cases ks with
      | nil => simp at h
      | cons a l => rw [deepL] at h1; have := deep_pos a; omega)
    clear hv hk hkX hbX hbF hF hdk hd hsF
    generalize (⟨s.toArray⟩ : ByteArray) = T at *
    go_enter Tryz.func35, Tryz.ntmps35
    go_wp2_with fail
    go_loopg [5, 6] (ks.length) (fun a sl si wr => ∃ (j : Nat), j + a = ks.length ∧ si = .int .i64 (j : Int) ∧ Hid (KCop wF ks j sl wr))
    case atStart => exact ⟨0, by omega, rfl, HR⟩
    case round =>
      obtain ⟨j, hja, rfl, HW⟩ := hrel
      clear HR x0 x1 x2 x3
      have HJ := Lib.hid hja
      obtain ⟨hG, hB⟩ := HW.out
      obtain ⟨-, y0, y1, y2, y3, f0, f1, f2, f3⟩ := HX.out.later hB
      by_cases hjk : j < ks.length
      · have hjz : (j : Int) < (ks.length : Int) := by omega
        have hdz : (d : Int) < 40 := by have := HD.out (by omega); omega
        obtain ⟨g2, o, rfl, hS, hg, hrow⟩ := HK.out (by omega)
        have hx : ks[j]? = some ks[j] := List.getElem?_eq_getElem hjk
        have hrow2 := RowIn.stays (.of hB) ks g2 o hS hg hrow
        obtain ⟨v0, v1, v2, v3, c0, c1, c2, c3, he⟩ := hrow2.at hx
        obtain ⟨ao2, cap2, hev, -⟩ := he.get
        obtain ⟨rfl, rfl, rfl, rfl⟩ := agg4 hev
        clear hev
        have hgr : g2 < wr.heap.size := Nat.lt_of_lt_of_le hg hB.size
        have hkn : nodes ks[j] ≤ nodesL ks := nodes_kid (List.getElem_mem hjk)
        have cI := IH ks[j] (by omega) (by omega) _ S _ (d + 1) he (HDK.out _ (List.getElem_mem hjk))
        rw [Int.natCast_add, Int.natCast_one] at cI
        have HBT := Lib.hid hB
        have HG := Lib.hid hG
        have htk : ks.take (j + 1) = ks.take j ++ [ks[j]] := by rw [List.take_add_one, hx]; rfl
        have HTK := Lib.hid htk
        have htl : (ks.take j).length = j := by rw [List.length_take]; omega
        have HTL := Lib.hid htl
        clear HW hrow hrow2 he hB hG HK hja hx IH htk htl
        go_wp2_with fail
        refine cI.mono ?_
        rintro en w2 ⟨b2, ao3, c3, rfl, x2⟩
        have hG2 := HG.out.later b2
        have hB2 := below_to HBT.out b2
        have hb3 := below_alloc w2 (.cells #[.int .i64 ks[j].op, .int .i64 ks[j].num, .string ⟨ks[j].str.toArray⟩, .slice ao3 ks[j].kids.length c3] 24)
        have hG3 := hG2.later hb3
        have hB3 := below_to hB2 hb3
        obtain ⟨xs, hown, hcs⟩ := hG3
        obtain ⟨xs1, hown1, -⟩ := HG.out
        have hx3 : ExIn (w2.alloc (.cells #[.int .i64 ks[j].op, .int .i64 ks[j].num, .string ⟨ks[j].str.toArray⟩, .slice ao3 ks[j].kids.length c3] 24)) (But wF.heap.size u5) ks[j] (EV ks[j].op ks[j].num ⟨ks[j].str.toArray⟩ (.slice ao3 ks[j].kids.length c3)) :=
          (x2.later hb3).wide (fun b hb _ => ⟨Nat.le_trans HBT.out.size hb, fun e => by have h1 := (own_blk hown1 b e).2; exact absurd hb (Nat.not_le_of_lt h1)⟩)
        have hlw := hB2.size
        have HOWN := Lib.hid hown
        have HCS := Lib.hid hcs
        have HX3 := Lib.hid hx3
        have HB3 := Lib.hid hB3
        have hlj := HTL.out
        clear hown hcs hown1 hx3 hB3 hB2 x2 b2 cI hG2 hb3 HG HBT
        go_wp2_with (at_builtin; refine wpList_append_own_at _ rfl _ _ 22 rfl wF.heap.size 24 i0 _ 4 56 Tryz.underlying22 hi hz0 hz1 hz2 rfl (by decide) _ _ _ rfl HOWN.out ⟨w2.heap.size, 0, none⟩ 1 1 [.int .i64 ks[j].op, .int .i64 ks[j].num, .string ⟨ks[j].str.toArray⟩, .slice ao3 ks[j].kids.length c3] rfl rfl ?c1 ?c2 ?c3 ?c4 ?c5 ?_)
        case c1 => exact four_news _ _ _ _ _ _
        case c2 => intro u hu; simp only [List.mem_cons, List.not_mem_nil, or_false] at hu; rcases hu with rfl | rfl | rfl | rfl <;> rfl
        case c3 => unfold maxLen; omega
        case c4 => omega
        case c5 => rw [alloc_size]; omega
        intro v' w4 hown' hgrow hnil hat
        have hG4 := Grow.snoc HCS.out HX3.out (by rw [hlj]; exact hown') hgrow (by rw [alloc_size]; exact hat)
        have hB4 := below_grown HB3.out (Nat.le_refl _) hgrow (fun b hb => (own_blk HOWN.out b hb).1)
        have HG4 : Hid (KCop wF ks (j + 1) v' w4) := Lib.hid ⟨by rw [HTK.out]; exact hG4, hB4⟩
        clear hG4 hB4 hown' hgrow hat hnil HOWN HCS HX3 HB3
        go_wp2_with fail
        go_roundg (ks.length - (j + 1))
        case measure => have := HJ.out; omega
        case rel => exact ⟨j + 1, by have := HJ.out; omega, by go_num, HG4⟩
      · have hjz : ¬ (j : Int) < (ks.length : Int) := by omega
        have hj : j = ks.length := by have := HJ.out; omega
        rw [hj, List.take_length] at hG
        obtain ⟨ao3, c3, rfl, hc3, hrow3⟩ := hG.done
        have HP := Lib.hid (HEND.out ao3 c3 wr hB hc3 hrow3)
        obtain ⟨-, r0, r1, r2, r3, e0, e1, e2, e3⟩ := (HF.out.later hB).other (i := 3) (u := .slice ao3 ks.length c3) (show w.heap.size ≠ w.heap.size + 1 by omega)
        clear HW HK hja IH hj hB hG hc3 hrow3 HEND
        go_wp2_with fail
        exact bodyPost_ret (v := EV op m T (.slice ao3 ks.length c3)) (by simp [results, Tryz.results35, go_sem, r0, r1, r2, r3]) rfl HP.out
set_option maxHeartbeats 1000000 in
set_option maxRecDepth 100000 in
theorem copy_any (e : Ex) (v : Value) (S : Nat → Prop) (w : World) (hv : ExIn w S e v) (hd : deepE e ≤ 36) (hn : nodes e ≤ 300) :
    Calls Tryz.prog 10 #[v] w (CopEnd w e) := by
  obtain ⟨ao, cap, rfl, -⟩ := hv.get
  have hX := four_new w (.int .i64 e.op) (.int .i64 e.num) (.string ⟨e.str.toArray⟩) (.slice ao e.kids.length cap) 24
  have hbX := below_alloc w (.cells #[.int .i64 e.op, .int .i64 e.num, .string ⟨e.str.toArray⟩, .slice ao e.kids.length cap] 24)
  have hsX := alloc_size w (.cells #[.int .i64 e.op, .int .i64 e.num, .string ⟨e.str.toArray⟩, .slice ao e.kids.length cap] 24)
  have hvX := hv.later hbX
  obtain ⟨wX, hwX⟩ : ∃ wX, w.alloc (.cells #[.int .i64 e.op, .int .i64 e.num, .string ⟨e.str.toArray⟩, .slice ao e.kids.length cap] 24) = wX := ⟨_, rfl⟩
  rw [hwX] at hX hbX hsX hvX
  have hF := four_new wX (.int .i64 0) (.int .i64 0) (.string ⟨#[]⟩) (.slice none 0 0) 24
  have hbF := below_alloc wX (.cells #[.int .i64 0, .int .i64 0, .string ⟨#[]⟩, .slice none 0 0] 24)
  have hsF := alloc_size wX (.cells #[.int .i64 0, .int .i64 0, .string ⟨#[]⟩, .slice none 0 0] 24)
  have hXF := hX.later hbF
  have hvF := hvX.later hbF
  have hbXF := below_to hbX hbF
  obtain ⟨wF, hwF⟩ : ∃ wF, wX.alloc (.cells #[.int .i64 0, .int .i64 0, .string ⟨#[]⟩, .slice none 0 0] 24) = wF := ⟨_, rfl⟩
  rw [hwF] at hF hXF hvF hsF hbXF
  rw [hsX] at hF
  have c := expr_all (nodes e) e (Nat.le_refl _) (by omega) _ _ wF 0 hvF (by omega)
  rw [show ((0 : Nat) : Int) = 0 from rfl] at c
  have HF := Lib.hid hF
  have HB := Lib.hid hbXF
  have HS := Lib.hid (show wF.heap.size = w.heap.size + 2 by omega)
  obtain ⟨-, x0, x1, x2, x3, -⟩ := hXF
  clear hv hvX hvF hX hbX hbF hF hbXF
  go_enter Tryz.func10, Tryz.ntmps10
  go_wp2_with fail
  refine c.mono ?_
  rintro en w1 ⟨b1, ao2, c2, rfl, hx⟩
  obtain ⟨-, r0, r1, r2, r3, e0, e1, e2, e3⟩ := HF.out.later b1
  have HX := Lib.hid hx
  have HB1 := Lib.hid (below_to HB.out b1)
  clear c hx b1
  go_wp2_with fail
  exact bodyPost_ret (v := EV e.op e.num ⟨e.str.toArray⟩ (.slice ao2 e.kids.length c2)) (by simp [results, Tryz.results10, go_sem, r0, r1, r2, r3]) rfl
    ⟨(((HB1.out.setCell (p := ⟨w.heap.size + 1, 0, none⟩) (Nat.le_succ _) _).setCell (p := ⟨w.heap.size + 1, 1, none⟩) (Nat.le_succ _) _).setCell (p := ⟨w.heap.size + 1, 2, none⟩) (Nat.le_succ _) _).setCell (p := ⟨w.heap.size + 1, 3, none⟩) (Nat.le_succ _) _, ao2, c2, rfl,
      (HX.out.keep (Stays.set4 w1 _ _ _ _ (g := w.heap.size + 1) (by have := HS.out; show ¬ wF.heap.size ≤ w.heap.size + 1; omega))).wide (fun b hb _ => by have h1 : wF.heap.size ≤ b := hb; have := HS.out; show w.heap.size ≤ b; omega)⟩
end Go.Proofs.YtbbblmedoagncaaGreatDoor
