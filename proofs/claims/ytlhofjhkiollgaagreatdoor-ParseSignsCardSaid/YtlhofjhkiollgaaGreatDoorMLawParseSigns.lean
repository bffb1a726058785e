/- ParseSigns. -/
import Derived.Test.YtlhofjhkiollgaaGreatDoorGR
import Derived.Test.YtlhofjhkiollgaaGreatDoorGU
import Derived.Test.YtlhofjhkiollgaaGreatDoorMParSame
import Derived.Test.YtlhofjhkiollgaaGreatDoorGT
namespace Go.Proofs.YtlhofjhkiollgaaGreatDoor
open Go.RowKit

/-- The expression that grows: its block, its tree behind that. -/
def SRel (w : World) (gx : Nat) (wr : World) (e : Ex) : Prop :=
  Below w.heap.size w wr ∧ ∃ (op n : Int) (z : ByteArray) (ao : Option Addr) (c : Nat), Four wr gx (.int .i64 op) (.int .i64 n) (.string z) (.slice ao e.kids.length c) ∧ ExIn wr (fun b => gx < b) e (EV op n z (.slice ao e.kids.length c))
theorem srel_new (w : World) : SRel w w.heap.size (w.alloc (.cells #[.int .i64 4, .int .i64 0, .string ⟨#[120]⟩, .slice none 0 0] 25)) (sgE []) := by
  refine ⟨below_alloc w _, 4, 0, ⟨#[120]⟩, none, 0, ?_, ?_⟩
  · exact four_new w (.int .i64 4) (.int .i64 0) (.string ⟨#[120]⟩) (.slice none 0 0) 25
  · exact ExIn.leaf (op := 4) (n := 0) (s := [120]) ⟨⟨by decide, by decide⟩, ⟨by decide, by decide⟩, by decide⟩
theorem set4_past9 (w : World) (o : Obj) (n : Nat) (hn : n < w.heap.size) (x0 x1 x2 x3 : Value) : set4 (w.alloc o) n x0 x1 x2 x3 = (set4 w n x0 x1 x2 x3).alloc o := by
  unfold set4
  rw [World.setCell_alloc_past _ _ _ _ hn, World.setCell_alloc_past _ _ _ _ (by rw [set_size]; exact hn), World.setCell_alloc_past _ _ _ _ (by rw [set_size, set_size]; exact hn), World.setCell_alloc_past _ _ _ _ (by rw [set_size, set_size, set_size]; exact hn)]
theorem srel_one {w wr : World} {gx l c : Nat} {op n : Int} {z : ByteArray} {ao : Option Addr} {e : Ex} (b : Bool) (hB : Below w.heap.size w wr) (hg : w.heap.size ≤ gx) (hF : Four wr gx (.int .i64 op) (.int .i64 n) (.string z) (.slice ao l c)) (hx : ExIn wr (fun b => gx < b) e (EV op n z (.slice ao l c))) :
    SRel w gx (set4 (wr.alloc (.cells #[.int .i64 op, .int .i64 n, .string z, .slice ao l c] 25)) gx (.int .i64 (if b then 6 else 5)) (.int .i64 0) (.string ⟨#[]⟩) (.slice (some ⟨wr.heap.size, 0, none⟩) 1 1)) (oneE (if b then 6 else 5) e) := by
  have hgl : gx < wr.heap.size := hF.1
  have hb := below_alloc wr (.cells #[.int .i64 op, .int .i64 n, .string z, .slice ao l c] 25)
  have hsz := alloc_size wr (.cells #[.int .i64 op, .int .i64 n, .string z, .slice ao l c] 25)
  have hc := cells_of_alloc wr #[.int .i64 op, .int .i64 n, .string z, .slice ao l c] 25
  have hx1 := hx.later hb
  have hF1 := hF.later hb
  have hB1 := below_drew hB (Nat.le_refl _) (.cells #[.int .i64 op, .int .i64 n, .string z, .slice ao l c] 25)
  obtain ⟨w1, hw1⟩ : ∃ w1, wr.alloc (.cells #[.int .i64 op, .int .i64 n, .string z, .slice ao l c] 25) = w1 := ⟨_, rfl⟩
  rw [hw1] at hc hx1 hF1 hB1 hsz ⊢
  have hnb : NB w1 wr.heap.size := hw1 ▸ NB.new wr _ _
  have hrow : RowIn w1 (fun b => gx < b) wr.heap.size 0 [e] := RowIn.one hnb (hc 0) (hc 1) (hc 2) (hc 3) hx1 .none
  have hst := fun o : Int => Stays.set4 (S := fun b => gx < b) w1 (.int .i64 o) (.int .i64 0) (.string ⟨#[]⟩) (.slice (some ⟨wr.heap.size, 0, none⟩) 1 1) (g := gx) (Nat.lt_irrefl _)
  cases b
  · exact ⟨below_put4 hB1 hg _ _ _ _, 5, 0, ⟨#[]⟩, some ⟨wr.heap.size, 0, none⟩, 1, hF1.set _ _ _ _, ex_one (op := 5) ⟨by decide, by decide⟩ hgl (by rw [set4_size]; omega) (RowIn.stays (hst 5) _ _ _ hgl (by omega) hrow)⟩
  · exact ⟨below_put4 hB1 hg _ _ _ _, 6, 0, ⟨#[]⟩, some ⟨wr.heap.size, 0, none⟩, 1, hF1.set _ _ _ _, ex_one (op := 6) ⟨by decide, by decide⟩ hgl (by rw [set4_size]; omega) (RowIn.stays (hst 6) _ _ _ hgl (by omega) hrow)⟩
/-- As far as the signs go. -/
theorem sg_next {L : List Bool} {N j k : Nat} (h : k + 1 + j = N) {b1 b2 : Bool} (h1 : L[k]? = some b1) (h2 : L[j]? = some b2) :
    sgE ((L.take N).drop (N - (j + 1))) = oneE (if b1 then 6 else 5) (sgE ((L.take N).drop (N - j))) ∧ sgP ((L.take N).take (j + 1)) = sgP ((L.take N).take j) ++ (if b2 then [33] else [45, 32]) := by
  have e1 : (L.take N)[k]? = some b1 := by rw [List.getElem?_take, if_pos (by omega)]; exact h1
  have e2 : (L.take N)[j]? = some b2 := by rw [List.getElem?_take, if_pos (by omega)]; exact h2
  obtain ⟨k1, k2⟩ := List.getElem?_eq_some_iff.1 e1
  constructor
  · rw [show N - (j + 1) = k by omega, show N - j = k + 1 by omega, List.drop_eq_getElem_cons k1, k2, sgE]
  · rw [List.take_add_one, e2]
    exact sgP_snoc _ _
set_option maxHeartbeats 4000000 in
set_option maxRecDepth 1000000 in
theorem parsesigns_walk (A : Option Addr) (L : List Bool) (cap : Nat) (w : World) (lc : L.length ≤ cap) (cm : cap ≤ 140737488351232) (B : Ls w A L) (hE : EnvP w) :
    Calls Tryz.prog 9 #[.slice A L.length cap] w fun e w' => e = .returned (.bool true) ∧ Below w.heap.size w w' := by
  have HR0 := Lib.hid (srel_new w)
  have HE := Lib.hid hE
  obtain ⟨N, hN, hN20, key⟩ : ∃ N, N ≤ L.length ∧ N ≤ 20 ∧ ((20 < L.length ∧ N = 20) ∨ (¬ 20 < L.length ∧ N = L.length)) := by
    by_cases h : 20 < L.length
    · exact ⟨20, by omega, by omega, .inl ⟨h, rfl⟩⟩
    · exact ⟨L.length, by omega, by omega, .inr ⟨h, rfl⟩⟩
  have HB := Lib.hid B
  have HSAY := Lib.hid (sg_says (L.take N) (by rw [List.length_take]; omega))
  have HLEN : Hid ((sgP (L.take N)).length ≤ 40) := Lib.hid (by have := sgP_len (L.take N); rw [List.length_take] at this; omega)
  have HSTART : Hid (sgP ((L.take N).take 0) = [] ∧ sgE ((L.take N).drop (N - 0)) = sgE []) := Lib.hid (by
    refine ⟨by simp [sgP], ?_⟩
    rw [Nat.sub_zero, List.drop_of_length_le (by rw [List.length_take]; omega)])
  have HNL := Lib.hid hN
  clear B hE
  go_enter Tryz.func9, Tryz.ntmps9
  rcases key with ⟨h20, hNe⟩ | ⟨h20, hNe⟩
  · have h20z : (20 : Int) < (L.length : Int) := by omega
    have HNE := Lib.hid hNe
    clear hNe h20 hN
    go_wp2_with fail
    rw [show (20 : Int) = (N : Int) by rw [HNE.out]; rfl]
    clear HNE h20z
    go_loopg [3, 6] (N) (fun q s3 s6 wr => ∃ (j : Nat), j + q = N ∧ s6 = .int .i64 (j : Int) ∧ s3 = .string ⟨(sgP ((L.take N).take j)).toArray⟩ ∧ Hid (SRel w w.heap.size wr (sgE ((L.take N).drop (N - j)))))
    case atStart => exact ⟨0, by omega, rfl, by rw [HSTART.out.1], Lib.hid (by rw [HSTART.out.2]; exact HR0.out)⟩
    case round =>
      obtain ⟨j, hjn, rfl, rfl, HW⟩ := hrel
      clear HR0 HSTART
      have HJ := Lib.hid hjn
      obtain ⟨hB, op, n, z, ao, c, hF, hx⟩ := HW.out
      by_cases hlt : j < N
      · have hltz : (j : Int) < (N : Int) := by omega
        obtain ⟨k, hk⟩ : ∃ k, k + 1 + j = N := ⟨N - 1 - j, by omega⟩
        have HNL2 := HNL.out
        have hidx : (N : Int) - 1 - (j : Int) = (k : Int) := by omega
        obtain ⟨b1, hb1⟩ : ∃ b1, L[k]? = some b1 := ⟨_, List.getElem?_eq_getElem (by omega)⟩
        obtain ⟨b2, hb2⟩ : ∃ b2, L[j]? = some b2 := ⟨_, List.getElem?_eq_getElem (by omega)⟩
        obtain ⟨eE, eP⟩ := sg_next hk hb1 hb2
        obtain ⟨ba, oa, rfl, hcell⟩ := (HB.out.below hB) (by omega)
        have c1 : wr.cell? ⟨ba, oa + k, none⟩ = some (.bool b1) := by
          have := hcell k (by omega)
          rwa [List.getD_eq_getElem?_getD, hb1] at this
        have c2 : wr.cell? ⟨ba, oa + j, none⟩ = some (.bool b2) := by
          have := hcell j (by omega)
          rwa [List.getD_eq_getElem?_getD, hb2] at this
        have hba : ba < wr.heap.size := World.block_lt_of_cell? wr _ c1
        have HN := Lib.hid ((set4_past9 wr _ w.heap.size hF.1 _ _ _ _) ▸ srel_one b1 hB (Nat.le_refl _) hF hx)
        have hbaw : ba < w.heap.size := by
          obtain ⟨b', o', e', hc'⟩ := HB.out (by omega)
          have hbl : b' < w.heap.size := World.block_lt_of_cell? w _ (hc' 0 (by omega))
          simp only [Option.some.injEq, Addr.mk.injEq, and_true] at e'
          omega
        have hbne : ¬ ba = w.heap.size := by omega
        have hbne2 : ¬ w.heap.size = ba := by omega
        have hpl : (sgP ((L.take N).take j)).length ≤ 40 := by
          have h1 := sgP_len ((L.take N).take j)
          rw [List.length_take, List.length_take] at h1
          omega
        have hkz : (k : Int) < (L.length : Int) := by omega
        have hjz : (j : Int) < (L.length : Int) := by omega
        have HEE := Lib.hid eE
        have HEP := Lib.hid eP
        have HLT := Lib.hid hlt
        obtain ⟨gl, y0, y1, y2, y3, f0, f1, f2, f3⟩ := hF
        clear hjn hx hB HW hcell hb1 hb2 eE eP hk hlt hbaw HNL2
        generalize (sgE ((L.take N).drop (N - j))).kids.length = LL at *
        cases b1 <;> cases b2
        all_goals
          have ho1 : ¬ 9223372036854775807 < (sgP ((L.take N).take j)).length + 1 := by omega
          have ho2 : ¬ 9223372036854775807 < (sgP ((L.take N).take j)).length + 2 := by omega
          clear hpl
          go_wp2_with fail
          go_roundg (N - (j + 1))
          case measure => have := HJ.out; have := HLT.out; omega
          case rel => exact ⟨j + 1, by have := HJ.out; have := HLT.out; omega, by go_num, by rw [HEP.out, ← str_app]; rfl, Lib.hid (by rw [HEE.out]; exact HN.out)⟩
      · have hltz : ¬ (j : Int) < (N : Int) := by omega
        obtain rfl : j = N := by omega
        have hsub : j - j = 0 := by omega
        rw [hsub, List.drop_zero] at hx hF
        have ht : (L.take j).take j = L.take j := by rw [List.take_take, Nat.min_self]
        rw [ht]
        have hS := HSAY.out
        have hLn := HLEN.out
        have hov : ¬ 9223372036854775807 < (sgP (L.take j)).length + 1 := by omega
        have hT : ((⟨(sgP (L.take j)).toArray⟩ : ByteArray) ++ (⟨#[120]⟩ : ByteArray)).data.toList = sgP (L.take j) ++ [120] := by simp
        have hnd : nodes (sgE (L.take j)) ≤ 21 := by
          have h1 := (sgE_all (L.take j)).1
          rw [List.length_take] at h1
          omega
        have cP := parse_vals ((⟨(sgP (L.take j)).toArray⟩ : ByteArray) ++ (⟨#[120]⟩ : ByteArray)) _ wr (by rw [← size_list, hT, List.length_append, List.length_singleton]; omega) (HE.out.later hB) (by rw [hT]; exact hS)
        have HX := Lib.hid hx
        have HF := Lib.hid hF
        have HBB := Lib.hid hB
        have HND := Lib.hid hnd
        clear hjn hx hF hB HW hS hLn hT hnd hsub ht HLEN hlt HNL HJ
        go_wp2_with fail
        refine cP.mono ?_
        rintro e w6 ⟨b6, op2, n2, z2, ao2, l2, c2, p2, f2, rfl, rfl, rfl, hx6⟩
        have hb7 := below_alloc w6 (.cells #[.int .i64 op2, .int .i64 n2, .string z2, .slice ao2 l2 c2] 25)
        have hG7 := four_new w6 (.int .i64 op2) (.int .i64 n2) (.string z2) (.slice ao2 l2 c2) 25
        have hF7 := (HF.out.later b6).later hb7
        have hy7 := hx6.later hb7
        have hx7 := (HX.out.later b6).later hb7
        have hB7 := below_to (below_to HBB.out b6) hb7
        obtain ⟨w7, hw7⟩ : ∃ w7, w6.alloc (.cells #[.int .i64 op2, .int .i64 n2, .string z2, .slice ao2 l2 c2] 25) = w7 := ⟨_, rfl⟩
        rw [hw7] at hG7 hF7 hy7 hx7 hB7
        have c8 := psame_any _ _ _ _ _ _ w7 hy7 hx7 (by have := HND.out; omega)
        have HB7 := Lib.hid hB7
        obtain ⟨-, g0, g1, g2, g3, -⟩ := hG7
        obtain ⟨-, h0, h1, h2, h3, -⟩ := hF7
        generalize (sgE (L.take j)).kids.length = LL at *
        clear cP b6 hx6 hb7 hy7 hx7 hB7 HF HX HBB
        go_wp2_with fail
        refine c8.mono ?_
        rintro e w8 ⟨⟨r, rfl, hr⟩, b8⟩
        obtain rfl : r = true := hr.2 (by trivial)
        have hB8 := below_to HB7.out b8
        have c10 := awake_any w8 (HE.out.later hB8)
        have HB8 := Lib.hid hB8
        clear c8 b8 hB8 hr g0 g1 g2 g3 h0 h1 h2 h3 HB7 hw7
        go_wp2_with fail
        refine c10.mono ?_
        rintro e w10 ⟨rfl, b10⟩
        go_wp2_with fail
        go_ret
        exact ⟨rfl, below_to HB8.out b10⟩
  · have h20z : ¬ (20 : Int) < (L.length : Int) := by omega
    have HNE := Lib.hid hNe
    clear h20 hN hNe
    go_wp2_with fail
    rw [← HNE.out]
    clear HNE h20z
    go_loopg [3, 6] (N) (fun q s3 s6 wr => ∃ (j : Nat), j + q = N ∧ s6 = .int .i64 (j : Int) ∧ s3 = .string ⟨(sgP ((L.take N).take j)).toArray⟩ ∧ Hid (SRel w w.heap.size wr (sgE ((L.take N).drop (N - j)))))
    case atStart => exact ⟨0, by omega, rfl, by rw [HSTART.out.1], Lib.hid (by rw [HSTART.out.2]; exact HR0.out)⟩
    case round =>
      obtain ⟨j, hjn, rfl, rfl, HW⟩ := hrel
      clear HR0 HSTART
      have HJ := Lib.hid hjn
      obtain ⟨hB, op, n, z, ao, c, hF, hx⟩ := HW.out
      by_cases hlt : j < N
      · have hltz : (j : Int) < (N : Int) := by omega
        obtain ⟨k, hk⟩ : ∃ k, k + 1 + j = N := ⟨N - 1 - j, by omega⟩
        have HNL2 := HNL.out
        have hidx : (N : Int) - 1 - (j : Int) = (k : Int) := by omega
        obtain ⟨b1, hb1⟩ : ∃ b1, L[k]? = some b1 := ⟨_, List.getElem?_eq_getElem (by omega)⟩
        obtain ⟨b2, hb2⟩ : ∃ b2, L[j]? = some b2 := ⟨_, List.getElem?_eq_getElem (by omega)⟩
        obtain ⟨eE, eP⟩ := sg_next hk hb1 hb2
        obtain ⟨ba, oa, rfl, hcell⟩ := (HB.out.below hB) (by omega)
        have c1 : wr.cell? ⟨ba, oa + k, none⟩ = some (.bool b1) := by
          have := hcell k (by omega)
          rwa [List.getD_eq_getElem?_getD, hb1] at this
        have c2 : wr.cell? ⟨ba, oa + j, none⟩ = some (.bool b2) := by
          have := hcell j (by omega)
          rwa [List.getD_eq_getElem?_getD, hb2] at this
        have hba : ba < wr.heap.size := World.block_lt_of_cell? wr _ c1
        have HN := Lib.hid ((set4_past9 wr _ w.heap.size hF.1 _ _ _ _) ▸ srel_one b1 hB (Nat.le_refl _) hF hx)
        have hbaw : ba < w.heap.size := by
          obtain ⟨b', o', e', hc'⟩ := HB.out (by omega)
          have hbl : b' < w.heap.size := World.block_lt_of_cell? w _ (hc' 0 (by omega))
          simp only [Option.some.injEq, Addr.mk.injEq, and_true] at e'
          omega
        have hbne : ¬ ba = w.heap.size := by omega
        have hbne2 : ¬ w.heap.size = ba := by omega
        have hpl : (sgP ((L.take N).take j)).length ≤ 40 := by
          have h1 := sgP_len ((L.take N).take j)
          rw [List.length_take, List.length_take] at h1
          omega
        have hkz : (k : Int) < (L.length : Int) := by omega
        have hjz : (j : Int) < (L.length : Int) := by omega
        have HEE := Lib.hid eE
        have HEP := Lib.hid eP
        have HLT := Lib.hid hlt
        obtain ⟨gl, y0, y1, y2, y3, f0, f1, f2, f3⟩ := hF
        clear hjn hx hB HW hcell hb1 hb2 eE eP hk hlt hbaw HNL2
        generalize (sgE ((L.take N).drop (N - j))).kids.length = LL at *
        cases b1 <;> cases b2
        all_goals
          have ho1 : ¬ 9223372036854775807 < (sgP ((L.take N).take j)).length + 1 := by omega
          have ho2 : ¬ 9223372036854775807 < (sgP ((L.take N).take j)).length + 2 := by omega
          clear hpl
          go_wp2_with fail
          go_roundg (N - (j + 1))
          case measure => have := HJ.out; have := HLT.out; omega
          case rel => exact ⟨j + 1, by have := HJ.out; have := HLT.out; omega, by go_num, by rw [HEP.out, ← str_app]; rfl, Lib.hid (by rw [HEE.out]; exact HN.out)⟩
      · have hltz : ¬ (j : Int) < (N : Int) := by omega
        obtain rfl : j = N := by omega
        have hsub : j - j = 0 := by omega
        rw [hsub, List.drop_zero] at hx hF
        have ht : (L.take j).take j = L.take j := by rw [List.take_take, Nat.min_self]
        rw [ht]
        have hS := HSAY.out
        have hLn := HLEN.out
        have hov : ¬ 9223372036854775807 < (sgP (L.take j)).length + 1 := by omega
        have hT : ((⟨(sgP (L.take j)).toArray⟩ : ByteArray) ++ (⟨#[120]⟩ : ByteArray)).data.toList = sgP (L.take j) ++ [120] := by simp
        have hnd : nodes (sgE (L.take j)) ≤ 21 := by
          have h1 := (sgE_all (L.take j)).1
          rw [List.length_take] at h1
          omega
        have cP := parse_vals ((⟨(sgP (L.take j)).toArray⟩ : ByteArray) ++ (⟨#[120]⟩ : ByteArray)) _ wr (by rw [← size_list, hT, List.length_append, List.length_singleton]; omega) (HE.out.later hB) (by rw [hT]; exact hS)
        have HX := Lib.hid hx
        have HF := Lib.hid hF
        have HBB := Lib.hid hB
        have HND := Lib.hid hnd
        clear hjn hx hF hB HW hS hLn hT hnd hsub ht HLEN hlt HNL HJ
        go_wp2_with fail
        refine cP.mono ?_
        rintro e w6 ⟨b6, op2, n2, z2, ao2, l2, c2, p2, f2, rfl, rfl, rfl, hx6⟩
        have hb7 := below_alloc w6 (.cells #[.int .i64 op2, .int .i64 n2, .string z2, .slice ao2 l2 c2] 25)
        have hG7 := four_new w6 (.int .i64 op2) (.int .i64 n2) (.string z2) (.slice ao2 l2 c2) 25
        have hF7 := (HF.out.later b6).later hb7
        have hy7 := hx6.later hb7
        have hx7 := (HX.out.later b6).later hb7
        have hB7 := below_to (below_to HBB.out b6) hb7
        obtain ⟨w7, hw7⟩ : ∃ w7, w6.alloc (.cells #[.int .i64 op2, .int .i64 n2, .string z2, .slice ao2 l2 c2] 25) = w7 := ⟨_, rfl⟩
        rw [hw7] at hG7 hF7 hy7 hx7 hB7
        have c8 := psame_any _ _ _ _ _ _ w7 hy7 hx7 (by have := HND.out; omega)
        have HB7 := Lib.hid hB7
        obtain ⟨-, g0, g1, g2, g3, -⟩ := hG7
        obtain ⟨-, h0, h1, h2, h3, -⟩ := hF7
        generalize (sgE (L.take j)).kids.length = LL at *
        clear cP b6 hx6 hb7 hy7 hx7 hB7 HF HX HBB
        go_wp2_with fail
        refine c8.mono ?_
        rintro e w8 ⟨⟨r, rfl, hr⟩, b8⟩
        obtain rfl : r = true := hr.2 (by trivial)
        have hB8 := below_to HB7.out b8
        have c10 := awake_any w8 (HE.out.later hB8)
        have HB8 := Lib.hid hB8
        clear c8 b8 hB8 hr g0 g1 g2 g3 h0 h1 h2 h3 HB7 hw7
        go_wp2_with fail
        refine c10.mono ?_
        rintro e w10 ⟨rfl, b10⟩
        go_wp2_with fail
        go_ret
        exact ⟨rfl, below_to HB8.out b10⟩
open Go.ChangeShapes Go.WideShapes Go.ChangeAt Go.RowKit Go.Lib Go.Shelf
set_option maxRecDepth 1000000 in
theorem parsesigns_lifted (os : Os) (started : os.Started) (H : Type) (enc : TypeId × Value → H) :
    ReturnsInHanded {} Tryz.checked os 9 .any (fun w args => (Rows.parseSignsSpec.pre enc Tryz.prog Tryz.f9 [] false w args ∧ laidMetH Tryz.prog tabsLaid8 w) ∧ sizedMet enc Tryz.prog Tryz.f9 (OpenSpec.ofChange Rows.parseSignsSpec) false w args)
      (Rows.parseSignsSpec.post enc Tryz.prog Tryz.f9 false true false false) := by
  refine returnsInHanded_of_change_and (C := Tryz.checked) (X := fun w _ => laidMetH Tryz.prog tabsLaid8 w) (fun _ _ _ hh h => h.of_heap hh) own started (by kernel_rfl) Tryz.func9
    (ChangeSpec.witness_shaped (enc := enc) (C := Tryz.checked) (os := os) (X := fun w _ => laidMetH Tryz.prog tabsLaid8 w) false (World.laidAll Tryz.prog os tabsLaid8) #[.slice none 0 0] 8 (World.laidAll_os _ _ _)
      (World.shaped_of_ZipB (by kernel_rfl) (by kernel_rfl)) (by kernel_rfl) (by kernel_rfl) (by kernel_rfl) (start_met8 os _)) ?_
  intro W base args ds gs before hval0 hW _ hsz0 hL _
  have hsz := hsz0
  have hval : ∀ (j : Nat) t v, Tryz.f9.params[j]? = some t → args[j]? = some v → Value.okWide Tryz.prog W .any base t v := hval0
  have hW' := hW
  obtain ⟨p, q, hA0, hV, rfl, _, _⟩ := hW
  have hA : DataW.TrodAll enc Tryz.prog W 0 (fun _ => true) true Tryz.f9.params.toList args.toList ds p := hA0
  rw [Tryz.params9] at hA hval
  obtain ⟨v0, d0, rfl, rfl, h0⟩ := trodAll_one hA
  obtain ⟨rfl, rfl⟩ := trodVars_none hV
  have hlt0 : ∀ x ∈ p, x.block < W.heap.size := fun x hx => hW'.lt x (by simp [hx])
  have h0k := h0
  obtain ⟨A0, L0, c0, rfl, lc0, cm0, B0⟩ := open_truths Tryz.underlying41 Tryz.underlying4 (by kernel_rfl) (hval 0 41 v0 rfl rfl) h0 (fun elems spare e => by
    subst e
    have := sized_slice hsz (j := 0) (t := 41) (e := 4) rfl rfl Tryz.underlying41
    rwa [show Tryz.checked.prog.bytesOf 4 = 1 by kernel_rfl] at this)
  simp only [List.append_nil] at hW'
  refine (parsesigns_walk A0 L0 c0 W lc0 cm0 B0 (envP_of_laid hL)).mono fun e W' ⟨he, hb⟩ => ?_
  subst he
  exact ⟨_, rfl, _, _, _, [], _, [], hW', trodAll_mk1 (shut_bool Tryz.underlying4 _), trodAll_mk1 (Below.trod laidOut (by kernel_rfl) (of_decide_eq_true (by kernel_rfl)) h0k hb hlt0), rfl, hb.frame _, fun h => by cases h⟩

theorem parsesigns_holds : Rows.ParseSignsSaid :=
  OpenClaim.holds_of_wide 9 Tryz.f9 rfl rfl rfl rfl rfl rfl rfl ⟨rfl, rfl, rfl, rfl, rfl⟩ rfl rfl rfl rfl rfl (by kernel_rfl) Tryz.func9 (by kernel_rfl)
    (of_decide_eq_true (by kernel_rfl)) (by unfold Func.isWrapper; first | (rw [if_pos (by decide +kernel)]; kernel_rfl) | (rw [if_neg (by decide +kernel)]; exact ⟨rfl, rfl⟩))
    (fun os started H enc _ => parsesigns_lifted os started H enc)

theorem parsesigns_card : Rows.ParseSignsCardSaid :=
  Claim7.holds_tied_plain_at .later [] [.data, .data, .data, .data, .sentinel, .sentinel, .data, .pinned] true _ true
    parsesigns_holds (fun _ h => by cases h) (by kernel_rfl) (fun _ h => by cases h) parseSigns_row_tie rfl ⟨rfl, rfl⟩ (by kernel_rfl) rfl
    (fun f fn hf hfn => by
      obtain rfl : f = 9 := Option.some.inj ((show Tryz.prog.funcNamed "palaver/palaverlaw07.ParseSigns" = some 9 by kernel_rfl).symm.trans hf) |>.symm
      obtain rfl : fn = Tryz.f9 := (Option.some.inj (Tryz.func9.symm.trans hfn)).symm
      exact ⟨by kernel_rfl, fun j t ht => by
        rw [Tryz.params9] at ht
        have hm : t ∈ [41] := by simpa using Array.mem_of_getElem? ht
        have hall : ([41].all fun u => !Tryz.prog.wantsStandIn u) = true := by kernel_rfl
        exact (show Tryz.prog.wantsStandIn t = false by simpa using List.all_eq_true.1 hall t hm)⟩)
    (by kernel_rfl)
end Go.Proofs.YtlhofjhkiollgaaGreatDoor
