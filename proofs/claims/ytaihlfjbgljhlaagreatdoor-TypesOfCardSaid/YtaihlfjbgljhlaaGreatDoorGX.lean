/- Several texts in one: Kit, KitE, KitT. -/
import Derived.Test.YtaihlfjbgljhlaaGreatDoorGO
import Derived.Test.YtaihlfjbgljhlaaGreatDoorGJ
import Derived.Test.YtaihlfjbgljhlaaGreatDoorGT
import Derived.Test.YtaihlfjbgljhlaaGreatDoorGP
import Derived.Test.YtaihlfjbgljhlaaGreatDoorGL
namespace Go.Proofs.YtaihlfjbgljhlaaGreatDoor
/- palaverlaw00.Tiny: where it is true, an expression has few parts and is not too deep. -/
section
open Go.RowKit

/-- A number of the call's own, in a block. -/
def Cnt (w : World) (g : Nat) (n : Int) : Prop := w.heap[g]? = some (.cells #[.int .i64 n] 3 (0, 0))
theorem Cnt.lt {w : World} {g : Nat} {n : Int} (h : Cnt w g n) : g < w.heap.size := (Array.getElem?_eq_some_iff.1 h).1
theorem Cnt.cell {w : World} {g : Nat} {n : Int} (h : Cnt w g n) : w.cell? ⟨g, 0, none⟩ = some (.int .i64 n) := by rw [cell_of_row w g 0 _ _ _ h]; rfl
theorem Cnt.fr {w : World} {g : Nat} {n : Int} (h : Cnt w g n) : w.frozen? ⟨g, 0, none⟩ = false := by simp [World.frozen?, show w.heap[g]? = _ from h]
theorem Cnt.set {w : World} {g : Nat} {n : Int} (h : Cnt w g n) (m : Int) : Cnt (w.setCell ⟨g, 0, none⟩ (.int .i64 m)) g m := by unfold Cnt; rw [heap_setCell_same w g 0 _ _ _ h]; rfl
theorem Cnt.later {w w' : World} {g : Nat} {n : Int} (h : Cnt w g n) (hb : Below w.heap.size w w') : Cnt w' g n := by unfold Cnt; rw [hb.block g h.lt]; exact h
theorem deep_kid {k : Ex} : ∀ {ks : List Ex}, k ∈ ks → deepE k ≤ deepL ks
  | x :: xs, h => by
    rw [deepL]
    rcases List.mem_cons.1 h with rfl | h
    · omega
    · have := deep_kid h; omega
/-- How tiny ends. -/
def TinyEnd (w : World) (g : Nat) (d : Nat) (n : Int) (e : Ex) (en : Ending) (w' : World) : Prop :=
  ∃ (b : Bool) (m : Int), en = .returned (.bool b) ∧ Away g w w' ∧ Cnt w' g m ∧ n ≤ m ∧ m ≤ 301 ∧ (b = true → m ≤ 300 ∧ m = n + (nodes e : Int) ∧ d + deepE e ≤ 36)
/-- While the kids are gone through. -/
def KTin (w : World) (g : Nat) (d : Nat) (n : Int) (ks : List Ex) (j : Nat) (wr : World) : Prop :=
  ∃ m : Int, Cnt wr g m ∧ Away g w wr ∧ m ≤ 300 ∧ n + 1 ≤ m ∧ m + (nodesL (ks.drop j) : Int) = n + 1 + (nodesL ks : Int) ∧ (d + 1 + deepL (ks.drop j) ≤ 36 → d + 1 + deepL ks ≤ 36)
set_option maxHeartbeats 4000000 in
set_option maxRecDepth 100000 in
theorem tiny_all : ∀ (F : Nat) (e : Ex), nodes e ≤ F → ∀ (v : Value) (S : Nat → Prop) (w : World) (d : Nat) (n : Int) (g : Nat), ExIn w S e v → ¬ S g → Cnt w g n → 0 ≤ n → n ≤ 300 → d ≤ 36 →
    Calls Tryz.prog 18 #[v, .int .i64 (d : Int), .pointer (some ⟨g, 0, none⟩)] w (TinyEnd w g d n e)
  | 0, e, hF, _, _, _, _, _, _, _, _, _, _, _, _ => absurd hF (by have := nodes_pos e; omega)
  | F + 1, .mk op m s ks, hF, v, S, w, d, n, g, hv, hSg, hC, hn0, hn1, hd => by
    have IH := tiny_all F
    have hvv := hv
    obtain ⟨ao, cap, rfl, h2, h3, hr, hk⟩ := hv.get
    unfold Ex.op Ex.num Ex.str Ex.kids at *
    dsimp only at *
    have hgw := hC.lt
    have hX := four_new w (.int .i64 op) (.int .i64 m) (.string ⟨s.toArray⟩) (.slice ao ks.length cap) 24
    have hbX := below_alloc w (.cells #[.int .i64 op, .int .i64 m, .string ⟨s.toArray⟩, .slice ao ks.length cap] 24)
    have hCX := hC.later hbX
    have hsX := alloc_size w (.cells #[.int .i64 op, .int .i64 m, .string ⟨s.toArray⟩, .slice ao ks.length cap] 24)
    have hkX : 0 < ks.length → ∃ g2 o, ao = some ⟨g2, o, none⟩ ∧ S g2 ∧ g2 < (w.alloc (.cells #[.int .i64 op, .int .i64 m, .string ⟨s.toArray⟩, .slice ao ks.length cap] 24)).heap.size ∧ RowIn (w.alloc (.cells #[.int .i64 op, .int .i64 m, .string ⟨s.toArray⟩, .slice ao ks.length cap] 24)) S g2 o ks := fun h0 => by
      obtain ⟨g2, o, a, b, c, r⟩ := hk h0
      exact ⟨g2, o, a, b, Nat.lt_of_lt_of_le c hbX.size, RowIn.stays (.of hbX) ks g2 o b c r⟩
    obtain ⟨wX, hwX⟩ : ∃ wX, w.alloc (.cells #[.int .i64 op, .int .i64 m, .string ⟨s.toArray⟩, .slice ao ks.length cap] 24) = wX := ⟨_, rfl⟩
    rw [hwX] at hX hbX hCX hkX hsX
    have c0 := hCX.cell
    have f0 := hCX.fr
    have hwr : IntKind.i64.wrap (n + 1) = n + 1 := IntWalk.i64_in _ (by omega)
    have hC1 := hCX.set (n + 1)
    have hA1 := (Away.refl g wX).set 0 (.int .i64 (n + 1))
    have hX1 := hX.away hA1 (by omega)
    have hAw := (Away.of hbX (g := g)).trans hA1
    have HEND : Hid (∀ (b : Bool) (q : Int) (w' : World), Away g wX w' → Cnt w' g q → n ≤ q → q ≤ 301 → (b = true → q ≤ 300 ∧ q = n + (nodesL ks : Int) + 1 ∧ d + (deepL ks + 1) ≤ 36) → TinyEnd w g d n (.mk op m s ks) (.returned (.bool b)) w') := Lib.hid (fun b q w' ha hc h1 h2 h3 =>
      ⟨b, q, rfl, (Away.of hbX (g := g)).trans ha, hc, h1, h2, fun hb => by
        obtain ⟨a1, a2, a3⟩ := h3 hb
        rw [nodes, deepE]
        exact ⟨a1, by push_cast; omega, a3⟩⟩)
    have HC1 := Lib.hid hC1
    have HA1 := Lib.hid hA1
    have HX1 := Lib.hid hX1
    obtain ⟨-, y0, y1, y2, y3, -⟩ := hX1
    have hX' := hX
    obtain ⟨-, x0, x1, x2, x3, -⟩ := hX'
    by_cases hn : 300 < n + 1
    · clear IH hX hvv hv hk hkX hC hCX hC1 hA1 hAw hbX
      go_enter Tryz.func18, Tryz.ntmps18
      go_wp2_with fail
      exact bodyPost_ret (v := .bool false) (by simp [results, Tryz.results18, go_sem]) rfl (HEND.out false (n + 1) _ HA1.out HC1.out (by omega) (by omega) (fun h => by cases h))
    by_cases hdd : 35 < d
    · have hdz : (35 : Int) < (d : Int) := by omega
      clear IH hX hvv hv hk hkX hC hCX hC1 hA1 hAw hbX
      go_enter Tryz.func18, Tryz.ntmps18
      go_wp2_with fail
      exact bodyPost_ret (v := .bool false) (by simp [results, Tryz.results18, go_sem]) rfl (HEND.out false (n + 1) _ HA1.out HC1.out (by omega) (by omega) (fun h => by cases h))
    have hdz : ¬ (35 : Int) < (d : Int) := by omega
    have hsl : (⟨s.toArray⟩ : ByteArray).size = s.length := by simp [ByteArray.size]
    by_cases hss : 1000 < s.length
    · have hsz : (1000 : Int) < ((⟨s.toArray⟩ : ByteArray).size : Int) := by rw [hsl]; omega
      clear IH hX hvv hv hk hkX hC hCX hC1 hA1 hAw hbX hsl
      generalize (⟨s.toArray⟩ : ByteArray) = T at *
      go_enter Tryz.func18, Tryz.ntmps18
      go_wp2_with fail
      exact bodyPost_ret (v := .bool false) (by simp [results, Tryz.results18, go_sem]) rfl (HEND.out false (n + 1) _ HA1.out HC1.out (by omega) (by omega) (fun h => by cases h))
    have hsz : ¬ (1000 : Int) < ((⟨s.toArray⟩ : ByteArray).size : Int) := by rw [hsl]; omega
    have HR : Hid (KTin wX g d n ks 0 (wX.setCell ⟨g, 0, none⟩ (.int .i64 (n + 1)))) := Lib.hid ⟨n + 1, hC1, hA1, by omega, by omega, by rw [List.drop_zero], by rw [List.drop_zero]; exact id⟩
    have HK := Lib.hid hkX
    have HX := Lib.hid hX
    have HSg := Lib.hid hSg
    have hgX : g < wX.heap.size := by omega
    clear hX hvv hv hk hkX hC hCX hC1 hA1 hAw hbX hss hsl hSg HX1 HC1 HA1
    generalize (⟨s.toArray⟩ : ByteArray) = T at *
    go_enter Tryz.func18, Tryz.ntmps18
    go_wp2_with fail
    go_loopg [7] (ks.length) (fun a si wr => ∃ (j : Nat), j + a = ks.length ∧ si = .int .i64 (j : Int) ∧ Hid (KTin wX g d n ks j wr))
    case atStart => exact ⟨0, by omega, rfl, HR⟩
    case round =>
      obtain ⟨j, hja, rfl, HW⟩ := hrel
      clear HR c0 f0 x0 x1 x2 x3 y0 y1 y2 y3
      have HJ := Lib.hid hja
      obtain ⟨q, hCq, hAq, q1, q2, q3, q4⟩ := HW.out
      have hXq := HX.out.away hAq (by omega)
      have hgq := hCq.lt
      by_cases hjk : j < ks.length
      · have hjz : (j : Int) < (ks.length : Int) := by omega
        obtain ⟨g2, o, rfl, hS, hg, hrow⟩ := HK.out (by omega)
        have hx : ks[j]? = some ks[j] := List.getElem?_eq_getElem hjk
        have hrow2 := RowIn.stays (.away hAq HSg.out) ks g2 o hS hg hrow
        obtain ⟨v0, v1, v2, v3, c0, c1, c2, c3, he⟩ := hrow2.at hx
        obtain ⟨ao2, cap2, hev, -⟩ := he.get
        obtain ⟨rfl, rfl, rfl, rfl⟩ := agg4 hev
        clear hev
        have hgr : g2 < wr.heap.size := Nat.lt_of_lt_of_le hg hAq.size
        have hkn : nodes ks[j] ≤ F := by
          have := nodes_kid (List.getElem_mem hjk)
          rw [nodes] at hF
          omega
        have cI := IH ks[j] hkn _ S _ (d + 1) q g he HSg.out hCq (by omega) q1 (by omega)
        rw [Int.natCast_add, Int.natCast_one] at cI
        have hdr := List.drop_eq_getElem_cons hjk
        have q3' : q + (nodes ks[j] : Int) + (nodesL (ks.drop (j + 1)) : Int) = n + 1 + (nodesL ks : Int) := by
          rw [hdr, nodesL] at q3; push_cast at q3; omega
        have q4' : d + 1 + deepE ks[j] ≤ 36 → d + 1 + deepL (ks.drop (j + 1)) ≤ 36 → d + 1 + deepL ks ≤ 36 := fun a b => q4 (by rw [hdr, deepL]; omega)
        have HQ3 := Lib.hid q3'
        have HQ4 := Lib.hid q4'
        have HAT := Lib.hid hAq
        obtain ⟨-, y0, y1, y2, y3, -⟩ := hXq
        clear HW hrow hrow2 he hCq hAq HK hja hx IH hdr q3 q4 q3' q4'
        go_wp2_with fail
        refine cI.mono ?_
        rintro en w2 ⟨b, m2, rfl, a2, C2, m0, m1, hb⟩
        have HM := Lib.hid hb
        clear cI hb
        cases b with
        | false =>
          go_wp2_with fail
          exact bodyPost_ret (v := .bool false) (by simp [results, Tryz.results18, go_sem]) rfl (HEND.out false m2 _ (HAT.out.trans a2) C2 (by omega) (by omega) (fun h => by cases h))
        | true =>
          obtain ⟨k1, k2, k3⟩ := HM.out rfl
          have HK3 := Lib.hid k3
          have HK2 := Lib.hid k2
          clear HM k3 k2
          go_wp2_with fail
          go_roundg (ks.length - (j + 1))
          case measure => have := HJ.out; omega
          case rel => exact ⟨j + 1, by have := HJ.out; omega, by go_num, Lib.hid ⟨m2, C2, HAT.out.trans a2, k1, by omega, by rw [HK2.out]; exact HQ3.out, HQ4.out HK3.out⟩⟩
      · have hjz : ¬ (j : Int) < (ks.length : Int) := by omega
        have hj : j = ks.length := by have := HJ.out; omega
        obtain ⟨-, y0, y1, y2, y3, -⟩ := hXq
        have HQ : Hid (q = n + (nodesL ks : Int) + 1 ∧ d + (deepL ks + 1) ≤ 36) := Lib.hid (by
          rw [hj, List.drop_length] at q3 q4
          rw [nodesL] at q3
          rw [deepL] at q4
          have := q4 (by omega)
          exact ⟨by push_cast at q3; omega, by omega⟩)
        have HCq := Lib.hid hCq
        have HAq := Lib.hid hAq
        clear HW HK hja IH hj hCq hAq q3 q4
        go_wp2_with fail
        exact bodyPost_ret (v := .bool true) (by simp [results, Tryz.results18, go_sem]) rfl (HEND.out true q _ HAq.out HCq.out (by omega) (by omega) (fun _ => ⟨q1, HQ.out⟩))
set_option maxHeartbeats 2000000 in
set_option maxRecDepth 100000 in
/-- palaverlaw00.Tiny. -/
theorem tinyE_any (e : Ex) (v : Value) (S : Nat → Prop) (w : World) (hv : ExIn w S e v) :
    Calls Tryz.prog 6 #[v] w fun en w' => ∃ b : Bool, en = .returned (.bool b) ∧ Below w.heap.size w w' ∧ (b = true → nodes e ≤ 300 ∧ deepE e ≤ 36) := by
  obtain ⟨ao, cap, rfl, h2, h3, hr, hk⟩ := hv.get
  have hX := four_new w (.int .i64 e.op) (.int .i64 e.num) (.string ⟨e.str.toArray⟩) (.slice ao e.kids.length cap) 24
  have hbX := below_alloc w (.cells #[.int .i64 e.op, .int .i64 e.num, .string ⟨e.str.toArray⟩, .slice ao e.kids.length cap] 24)
  have hsX := alloc_size w (.cells #[.int .i64 e.op, .int .i64 e.num, .string ⟨e.str.toArray⟩, .slice ao e.kids.length cap] 24)
  have hvX := (hv.later hbX).wide (R := fun b => b < (w.alloc (.cells #[.int .i64 e.op, .int .i64 e.num, .string ⟨e.str.toArray⟩, .slice ao e.kids.length cap] 24)).heap.size) (fun b _ h => h)
  obtain ⟨wX, hwX⟩ : ∃ wX, w.alloc (.cells #[.int .i64 e.op, .int .i64 e.num, .string ⟨e.str.toArray⟩, .slice ao e.kids.length cap] 24) = wX := ⟨_, rfl⟩
  rw [hwX] at hX hbX hsX hvX
  have hb1 := below_alloc wX (.cells #[.int .i64 0] 3)
  have hv2 := hvX.later hb1
  have hX1 := hX.later hb1
  have hC : Cnt (wX.alloc (.cells #[.int .i64 0] 3)) wX.heap.size 0 := alloc_at wX _
  have c := tiny_all (nodes e) e (Nat.le_refl _) _ _ _ 0 0 wX.heap.size hv2 (Nat.lt_irrefl _) hC (by decide) (by decide) (by decide)
  rw [show ((0 : Nat) : Int) = 0 from rfl, hsX] at c
  have HE : Hid (∀ w', Away (w.heap.size + 1) (wX.alloc (.cells #[.int .i64 0] 3)) w' → Below w.heap.size w w') := Lib.hid (fun w' h => below_to hbX (hb1.trans ((hsX ▸ h : Away wX.heap.size _ w').below (Nat.le_refl _) hb1.size)))
  obtain ⟨-, x0, x1, x2, x3, -⟩ := hX1
  clear hv hvX hv2 hb1 hX hC hk hbX
  go_enter Tryz.func6, Tryz.ntmps6
  go_wp2_with fail
  refine c.mono ?_
  rintro en w1 ⟨b, m, rfl, a1, C1, m0, m1, hb⟩
  have HB := Lib.hid (show b = true → nodes e ≤ 300 ∧ deepE e ≤ 36 from fun h => by obtain ⟨k1, k2, k3⟩ := hb h; omega)
  have HW := Lib.hid (HE.out w1 a1)
  clear hb c HE a1 C1
  go_wp2_with fail
  exact bodyPost_ret (v := .bool b) (by simp [results, Tryz.results6, go_sem]) rfl ⟨b, rfl, HW.out, HB.out⟩
end
/- palaverlaw00.Expr: a copy of an expression that is not too deep, in new memory. -/
section
open Go.RowKit

/-- While the kids are copied. -/
def KCop (w : World) (ks : List Ex) (j : Nat) (v : Value) (wr : World) : Prop := Grow wr w.heap.size v (ks.take j) ∧ Below w.heap.size w wr
/-- How the copy ends. -/
def CopEnd (w : World) (e : Ex) (en : Ending) (w' : World) : Prop :=
  Below w.heap.size w w' ∧ ∃ ao c, en = .returned (EV e.op e.num ⟨e.str.toArray⟩ (.slice ao e.kids.length c)) ∧ ExIn w' (Up w.heap.size) e (EV e.op e.num ⟨e.str.toArray⟩ (.slice ao e.kids.length c))
set_option maxHeartbeats 4000000 in
set_option maxRecDepth 100000 in
theorem expr_all : ∀ (F : Nat) (e : Ex), nodes e ≤ F → nodes e ≤ 100000 → ∀ (v : Value) (S : Nat → Prop) (w : World) (d : Nat), ExIn w S e v → d + deepE e ≤ 41 →
    Calls Tryz.prog 22 #[v, .int .i64 (d : Int)] w (CopEnd w e)
  | 0, e, hF, _, _, _, _, _, _, _ => absurd hF (by have := nodes_pos e; omega)
  | F + 1, .mk op m s ks, hF, hN, v, S, w, d, hv, hd => by
    have IH := expr_all F
    have hkl := nodesL_len ks
    have hnl : nodesL ks + 1 ≤ 100000 := by rw [nodes] at hN; omega
    have hnF : nodesL ks ≤ F := by rw [nodes] at hF; omega
    rw [deepE] at hd
    obtain ⟨ao, cap, rfl, h2, h3, hr, hk⟩ := hv.get
    unfold Ex.op Ex.num Ex.str Ex.kids at *
    dsimp only at *
    obtain ⟨i0, hi, hz0, hz1, hz2⟩ := info_parts (show (Tryz.prog.info? 24).map (fun i => (i.zero, i.size, i.bytes)) = some (some (.agg #[.int .i64 0, .int .i64 0, .string ⟨#[]⟩, .slice none 0 0]), 4, 56) by kernel_rfl)
    have hX := four_new w (.int .i64 op) (.int .i64 m) (.string ⟨s.toArray⟩) (.slice ao ks.length cap) 24
    have hbX := below_alloc w (.cells #[.int .i64 op, .int .i64 m, .string ⟨s.toArray⟩, .slice ao ks.length cap] 24)
    have hsX := alloc_size w (.cells #[.int .i64 op, .int .i64 m, .string ⟨s.toArray⟩, .slice ao ks.length cap] 24)
    have hkX : 0 < ks.length → ∃ g2 o, ao = some ⟨g2, o, none⟩ ∧ S g2 ∧ g2 < (w.alloc (.cells #[.int .i64 op, .int .i64 m, .string ⟨s.toArray⟩, .slice ao ks.length cap] 24)).heap.size ∧ RowIn (w.alloc (.cells #[.int .i64 op, .int .i64 m, .string ⟨s.toArray⟩, .slice ao ks.length cap] 24)) S g2 o ks := fun h0 => by
      obtain ⟨g2, o, a, b, c, r⟩ := hk h0
      exact ⟨g2, o, a, b, Nat.lt_of_lt_of_le c hbX.size, RowIn.stays (.of hbX) ks g2 o b c r⟩
    obtain ⟨wX, hwX⟩ : ∃ wX, w.alloc (.cells #[.int .i64 op, .int .i64 m, .string ⟨s.toArray⟩, .slice ao ks.length cap] 24) = wX := ⟨_, rfl⟩
    rw [hwX] at hX hbX hkX hsX
    have hF := four_new wX (.int .i64 0) (.int .i64 0) (.string ⟨#[]⟩) (.slice none 0 0) 24
    have hbF := below_alloc wX (.cells #[.int .i64 0, .int .i64 0, .string ⟨#[]⟩, .slice none 0 0] 24)
    have hsF := alloc_size wX (.cells #[.int .i64 0, .int .i64 0, .string ⟨#[]⟩, .slice none 0 0] 24)
    have hX := hX.later hbF
    have hkX : 0 < ks.length → ∃ g2 o, ao = some ⟨g2, o, none⟩ ∧ S g2 ∧ g2 < (wX.alloc (.cells #[.int .i64 0, .int .i64 0, .string ⟨#[]⟩, .slice none 0 0] 24)).heap.size ∧ RowIn (wX.alloc (.cells #[.int .i64 0, .int .i64 0, .string ⟨#[]⟩, .slice none 0 0] 24)) S g2 o ks := fun h0 => by
      obtain ⟨g2, o, a, b, c, r⟩ := hkX h0
      exact ⟨g2, o, a, b, Nat.lt_of_lt_of_le c hbF.size, RowIn.stays (.of hbF) ks g2 o b c r⟩
    have hbX := below_to hbX hbF
    obtain ⟨wF, hwF⟩ : ∃ wF, wX.alloc (.cells #[.int .i64 0, .int .i64 0, .string ⟨#[]⟩, .slice none 0 0] 24) = wF := ⟨_, rfl⟩
    rw [hwF] at hF hX hbF hkX hsF hbX
    rw [hsX] at hF
    have HEND : Hid (∀ (ao3 : Option Addr) (c3 : Nat) (wr : World), Below wF.heap.size wF wr → ks.length ≤ c3 → (0 < ks.length → ∃ b, ao3 = some ⟨b, 0, none⟩ ∧ wF.heap.size ≤ b ∧ b < wr.heap.size ∧ RowIn wr (Up wF.heap.size) b 0 ks) →
        CopEnd w (.mk op m s ks) (.returned (EV op m ⟨s.toArray⟩ (.slice ao3 ks.length c3))) (set4 (wr.setCell ⟨w.heap.size, 3, none⟩ (.slice ao3 ks.length c3)) (w.heap.size + 1) (.int .i64 op) (.int .i64 m) (.string ⟨s.toArray⟩) (.slice ao3 ks.length c3))) := Lib.hid (fun ao3 c3 wr hB hc hrow =>
      ⟨((((((below_to hbX hB).setCell (p := ⟨w.heap.size, 3, none⟩) (Nat.le_refl _) _).setCell (p := ⟨w.heap.size + 1, 0, none⟩) (Nat.le_succ _) _).setCell (p := ⟨w.heap.size + 1, 1, none⟩) (Nat.le_succ _) _).setCell (p := ⟨w.heap.size + 1, 2, none⟩) (Nat.le_succ _) _).setCell (p := ⟨w.heap.size + 1, 3, none⟩) (Nat.le_succ _) _), ao3, c3, rfl, by
        have hst := (Stays.set (S := Up wF.heap.size) (g := w.heap.size) wr 3 (.slice ao3 ks.length c3) (by show ¬ wF.heap.size ≤ w.heap.size; omega)).trans (Stays.set4 (g := w.heap.size + 1) _ (.int .i64 op) (.int .i64 m) (.string ⟨s.toArray⟩) (.slice ao3 ks.length c3) (by show ¬ wF.heap.size ≤ w.heap.size + 1; omega))
        refine (ExIn.mk (S := Up wF.heap.size) hr hc (by omega) (fun h0 => ?_)).wide (fun b hb _ => by have : wF.heap.size ≤ b := hb; show w.heap.size ≤ b; omega)
        obtain ⟨b, hb1, hb2, hb3, hb4⟩ := hrow h0
        exact ⟨b, 0, hb1, hb2, Nat.lt_of_lt_of_le hb3 hst.size, RowIn.stays hst ks b 0 hb2 hb3 hb4⟩⟩)
    have HR : Hid (KCop wF ks 0 (.slice none 0 0) wF) := Lib.hid ⟨by rw [List.take_zero]; exact Grow.nil _ _, Below.refl _ _⟩
    have HK := Lib.hid hkX
    have HX := Lib.hid hX
    have HF := Lib.hid hF
    obtain ⟨-, x0, x1, x2, x3, -⟩ := hX
    have hdk : 0 < ks.length → d + 1 + deepL ks ≤ 41 := fun _ => by omega
    have HDK : Hid (∀ k ∈ ks, d + 1 + deepE k ≤ 41) := Lib.hid (fun k hk => by have := deep_kid hk; omega)
    have HD : Hid (0 < ks.length → d < 40) := Lib.hid (fun h => by
      have h1 := hdk h
      cases ks with
      | nil => simp at h
      | cons a l => rw [deepL] at h1; have := deep_pos a; omega)
    clear hv hk hkX hbX hbF hF hdk hd hsF
    generalize (⟨s.toArray⟩ : ByteArray) = T at *
    go_enter Tryz.func22, Tryz.ntmps22
    go_wp2_with fail
    go_loopg [5, 6] (ks.length) (fun a sl si wr => ∃ (j : Nat), j + a = ks.length ∧ si = .int .i64 (j : Int) ∧ Hid (KCop wF ks j sl wr))
    case atStart => exact ⟨0, by omega, rfl, HR⟩
    case round =>
      obtain ⟨j, hja, rfl, HW⟩ := hrel
      clear HR x0 x1 x2 x3
      have HJ := Lib.hid hja
      obtain ⟨hG, hB⟩ := HW.out
      obtain ⟨-, y0, y1, y2, y3, f0, f1, f2, f3⟩ := HX.out.later hB
      by_cases hjk : j < ks.length
      · have hjz : (j : Int) < (ks.length : Int) := by omega
        have hdz : (d : Int) < 40 := by have := HD.out (by omega); omega
        obtain ⟨g2, o, rfl, hS, hg, hrow⟩ := HK.out (by omega)
        have hx : ks[j]? = some ks[j] := List.getElem?_eq_getElem hjk
        have hrow2 := RowIn.stays (.of hB) ks g2 o hS hg hrow
        obtain ⟨v0, v1, v2, v3, c0, c1, c2, c3, he⟩ := hrow2.at hx
        obtain ⟨ao2, cap2, hev, -⟩ := he.get
        obtain ⟨rfl, rfl, rfl, rfl⟩ := agg4 hev
        clear hev
        have hgr : g2 < wr.heap.size := Nat.lt_of_lt_of_le hg hB.size
        have hkn : nodes ks[j] ≤ nodesL ks := nodes_kid (List.getElem_mem hjk)
        have cI := IH ks[j] (by omega) (by omega) _ S _ (d + 1) he (HDK.out _ (List.getElem_mem hjk))
        rw [Int.natCast_add, Int.natCast_one] at cI
        have HBT := Lib.hid hB
        have HG := Lib.hid hG
        have htk : ks.take (j + 1) = ks.take j ++ [ks[j]] := by rw [List.take_add_one, hx]; rfl
        have HTK := Lib.hid htk
        have htl : (ks.take j).length = j := by rw [List.length_take]; omega
        have HTL := Lib.hid htl
        clear HW hrow hrow2 he hB hG HK hja hx IH htk htl
        go_wp2_with fail
        refine cI.mono ?_
        rintro en w2 ⟨b2, ao3, c3, rfl, x2⟩
        have hG2 := HG.out.later b2
        have hB2 := below_to HBT.out b2
        have hb3 := below_alloc w2 (.cells #[.int .i64 ks[j].op, .int .i64 ks[j].num, .string ⟨ks[j].str.toArray⟩, .slice ao3 ks[j].kids.length c3] 24)
        have hG3 := hG2.later hb3
        have hB3 := below_to hB2 hb3
        obtain ⟨xs, hown, hcs⟩ := hG3
        obtain ⟨xs1, hown1, -⟩ := HG.out
        have hx3 : ExIn (w2.alloc (.cells #[.int .i64 ks[j].op, .int .i64 ks[j].num, .string ⟨ks[j].str.toArray⟩, .slice ao3 ks[j].kids.length c3] 24)) (But wF.heap.size u5) ks[j] (EV ks[j].op ks[j].num ⟨ks[j].str.toArray⟩ (.slice ao3 ks[j].kids.length c3)) :=
          (x2.later hb3).wide (fun b hb _ => ⟨Nat.le_trans HBT.out.size hb, fun e => by have h1 := (own_blk hown1 b e).2; exact absurd hb (Nat.not_le_of_lt h1)⟩)
        have hlw := hB2.size
        have HOWN := Lib.hid hown
        have HCS := Lib.hid hcs
        have HX3 := Lib.hid hx3
        have HB3 := Lib.hid hB3
        have hlj := HTL.out
        clear hown hcs hown1 hx3 hB3 hB2 x2 b2 cI hG2 hb3 HG HBT
        go_wp2_with (at_builtin; refine wpList_append_own_at _ rfl _ _ 22 rfl wF.heap.size 24 i0 _ 4 56 Tryz.underlying22 hi hz0 hz1 hz2 rfl (by decide) _ _ _ rfl HOWN.out ⟨w2.heap.size, 0, none⟩ 1 1 [.int .i64 ks[j].op, .int .i64 ks[j].num, .string ⟨ks[j].str.toArray⟩, .slice ao3 ks[j].kids.length c3] rfl rfl ?c1 ?c2 ?c3 ?c4 ?c5 ?_)
        case c1 => exact four_news _ _ _ _ _ _
        case c2 => intro u hu; simp only [List.mem_cons, List.not_mem_nil, or_false] at hu; rcases hu with rfl | rfl | rfl | rfl <;> rfl
        case c3 => unfold maxLen; omega
        case c4 => omega
        case c5 => rw [alloc_size]; omega
        intro v' w4 hown' hgrow hnil hat
        have hG4 := Grow.snoc HCS.out HX3.out (by rw [hlj]; exact hown') hgrow (by rw [alloc_size]; exact hat)
        have hB4 := below_grown HB3.out (Nat.le_refl _) hgrow (fun b hb => (own_blk HOWN.out b hb).1)
        have HG4 : Hid (KCop wF ks (j + 1) v' w4) := Lib.hid ⟨by rw [HTK.out]; exact hG4, hB4⟩
        clear hG4 hB4 hown' hgrow hat hnil HOWN HCS HX3 HB3
        go_wp2_with fail
        go_roundg (ks.length - (j + 1))
        case measure => have := HJ.out; omega
        case rel => exact ⟨j + 1, by have := HJ.out; omega, by go_num, HG4⟩
      · have hjz : ¬ (j : Int) < (ks.length : Int) := by omega
        have hj : j = ks.length := by have := HJ.out; omega
        rw [hj, List.take_length] at hG
        obtain ⟨ao3, c3, rfl, hc3, hrow3⟩ := hG.done
        have HP := Lib.hid (HEND.out ao3 c3 wr hB hc3 hrow3)
        obtain ⟨-, r0, r1, r2, r3, e0, e1, e2, e3⟩ := (HF.out.later hB).other (i := 3) (u := .slice ao3 ks.length c3) (show w.heap.size ≠ w.heap.size + 1 by omega)
        clear HW HK hja IH hj hB hG hc3 hrow3 HEND
        go_wp2_with fail
        exact bodyPost_ret (v := EV op m T (.slice ao3 ks.length c3)) (by simp [results, Tryz.results22, go_sem, r0, r1, r2, r3]) rfl HP.out
set_option maxHeartbeats 1000000 in
set_option maxRecDepth 100000 in
theorem copy_any (e : Ex) (v : Value) (S : Nat → Prop) (w : World) (hv : ExIn w S e v) (hd : deepE e ≤ 36) (hn : nodes e ≤ 300) :
    Calls Tryz.prog 9 #[v] w (CopEnd w e) := by
  obtain ⟨ao, cap, rfl, -⟩ := hv.get
  have hX := four_new w (.int .i64 e.op) (.int .i64 e.num) (.string ⟨e.str.toArray⟩) (.slice ao e.kids.length cap) 24
  have hbX := below_alloc w (.cells #[.int .i64 e.op, .int .i64 e.num, .string ⟨e.str.toArray⟩, .slice ao e.kids.length cap] 24)
  have hsX := alloc_size w (.cells #[.int .i64 e.op, .int .i64 e.num, .string ⟨e.str.toArray⟩, .slice ao e.kids.length cap] 24)
  have hvX := hv.later hbX
  obtain ⟨wX, hwX⟩ : ∃ wX, w.alloc (.cells #[.int .i64 e.op, .int .i64 e.num, .string ⟨e.str.toArray⟩, .slice ao e.kids.length cap] 24) = wX := ⟨_, rfl⟩
  rw [hwX] at hX hbX hsX hvX
  have hF := four_new wX (.int .i64 0) (.int .i64 0) (.string ⟨#[]⟩) (.slice none 0 0) 24
  have hbF := below_alloc wX (.cells #[.int .i64 0, .int .i64 0, .string ⟨#[]⟩, .slice none 0 0] 24)
  have hsF := alloc_size wX (.cells #[.int .i64 0, .int .i64 0, .string ⟨#[]⟩, .slice none 0 0] 24)
  have hXF := hX.later hbF
  have hvF := hvX.later hbF
  have hbXF := below_to hbX hbF
  obtain ⟨wF, hwF⟩ : ∃ wF, wX.alloc (.cells #[.int .i64 0, .int .i64 0, .string ⟨#[]⟩, .slice none 0 0] 24) = wF := ⟨_, rfl⟩
  rw [hwF] at hF hXF hvF hsF hbXF
  rw [hsX] at hF
  have c := expr_all (nodes e) e (Nat.le_refl _) (by omega) _ _ wF 0 hvF (by omega)
  rw [show ((0 : Nat) : Int) = 0 from rfl] at c
  have HF := Lib.hid hF
  have HB := Lib.hid hbXF
  have HS := Lib.hid (show wF.heap.size = w.heap.size + 2 by omega)
  obtain ⟨-, x0, x1, x2, x3, -⟩ := hXF
  clear hv hvX hvF hX hbX hbF hF hbXF
  go_enter Tryz.func9, Tryz.ntmps9
  go_wp2_with fail
  refine c.mono ?_
  rintro en w1 ⟨b1, ao2, c2, rfl, hx⟩
  obtain ⟨-, r0, r1, r2, r3, e0, e1, e2, e3⟩ := HF.out.later b1
  have HX := Lib.hid hx
  have HB1 := Lib.hid (below_to HB.out b1)
  clear c hx b1
  go_wp2_with fail
  exact bodyPost_ret (v := EV e.op e.num ⟨e.str.toArray⟩ (.slice ao2 e.kids.length c2)) (by simp [results, Tryz.results9, go_sem, r0, r1, r2, r3]) rfl
    ⟨(((HB1.out.setCell (p := ⟨w.heap.size + 1, 0, none⟩) (Nat.le_succ _) _).setCell (p := ⟨w.heap.size + 1, 1, none⟩) (Nat.le_succ _) _).setCell (p := ⟨w.heap.size + 1, 2, none⟩) (Nat.le_succ _) _).setCell (p := ⟨w.heap.size + 1, 3, none⟩) (Nat.le_succ _) _, ao2, c2, rfl,
      (HX.out.keep (Stays.set4 w1 _ _ _ _ (g := w.heap.size + 1) (by have := HS.out; show ¬ wF.heap.size ≤ w.heap.size + 1; omega))).wide (fun b hb _ => by have h1 : wF.heap.size ≤ b := hb; have := HS.out; show w.heap.size ≤ b; omega)⟩
end
/- palaverlaw00.Texts, Ints: a list in new memory. -/
section
open Go.RowKit

section
variable {α : Type} {f : α → Value} {d : α} {w : World}
/-- A row of the call's own holds them. -/
theorem els_own {B : Nat} {e : TypeId} {v : Value} {l : List α} (h : w.ownsRow B e 1 v l.length (l.map f)) : ∃ A cap, v = .slice A l.length cap ∧ l.length ≤ cap ∧ Els f d w A l ∧ (A = none → cap = 0) := by
  have h' := h
  rcases h.2 with ⟨rfl, hn⟩ | ⟨g, cap, cur, rfl, hbg, hg, hnc, hcm, rest⟩
  · exact ⟨none, 0, by rw [hn], by omega, fun hp => absurd hp (by omega), fun _ => rfl⟩
  · refine ⟨_, cap, rfl, hnc, fun _ => ⟨g, 0, rfl, fun j hj => ?_⟩, fun h => by cases h⟩
    rw [Nat.zero_add, h'.cellAt j (by omega)]
    rw [List.getElem?_map, List.getElem?_eq_getElem hj, List.getD_eq_getElem?_getD, List.getElem?_eq_getElem hj]
    rfl
theorem els_cells {ad : Addr} {l : List α} (h : Els f d w (some ad) l) : ∀ j u, (l.map f)[j]? = some u → w.cell? (ad.add j) = some u := by
  intro j u hu
  have hj : j < l.length := by
    have := (List.getElem?_eq_some_iff.1 hu).1
    rwa [List.length_map] at this
  obtain ⟨b, off, e, hc⟩ := h (by omega)
  injection e with e
  subst e
  have e2 : (⟨b, off, none⟩ : Addr).add j = ⟨b, off + j, none⟩ := by unfold Addr.add; split <;> simp_all
  rw [e2, hc j hj, ← hu, List.getElem?_map, List.getElem?_eq_getElem hj, List.getD_eq_getElem?_getD, List.getElem?_eq_getElem hj]
  rfl
end
/-- How a list in new memory ends. -/
def OwnEls {α : Type} (f : α → Value) (d : α) (t : TypeId) (w : World) (l : List α) (e : Ending) (w' : World) : Prop :=
  ∃ A cap, e = .returned (.slice A l.length cap) ∧ l.length ≤ cap ∧ Els f d w' A l ∧ (A = none → cap = 0) ∧ w'.ownsRow w.heap.size t 1 (.slice A l.length cap) l.length (l.map f) ∧ Below w.heap.size w w'
theorem own_els {α : Type} {f : α → Value} {d : α} {t : TypeId} {w w1 : World} {v : Value} {l : List α} (h : w1.ownsRow w.heap.size t 1 v l.length (l.map f)) (hb : Below w.heap.size w w1) : OwnEls f d t w l (.returned v) w1 := by
  obtain ⟨A, cap, rfl, h1, h2, h3⟩ := els_own (d := d) h
  exact ⟨A, cap, rfl, h1, h2, h3, h, hb⟩
set_option maxHeartbeats 400000 in
theorem texts_any (A : Option Addr) (L : List ByteArray) (cap : Nat) (w : World) (hl : L.length ≤ 1000) (hB : Ts w A L) (hcap : A = none → cap = 0) :
    Calls Tryz.prog 14 #[.slice A L.length cap] w (OwnEls (fun s => .string s) ByteArray.empty 9 w L) := by
  obtain ⟨i0, hi, hz0, hz1, hz2⟩ := info_parts (show (Tryz.prog.info? 9).map (fun i => (i.zero, i.size, i.bytes)) = some (some (.string ⟨#[]⟩), 1, 16) by kernel_rfl)
  cases A with
  | none =>
    obtain rfl := hcap rfl
    have h0 : L = [] := by
      cases L with
      | nil => rfl
      | cons c L => obtain ⟨b, off, e, _⟩ := hB (by simp); cases e
    subst h0
    go_enter Tryz.func14, Tryz.ntmps14
    go_wp2_with (at_builtin; refine wpList_append_own_none rfl _ _ _ rfl w.heap.size 9 i0 1 Tryz.underlying28 hi (.slice none 0 0) 0 [] rfl (World.ownsRow_nil _ _ _ _) rfl ?_)
    go_ret
    exact own_els (l := ([] : List ByteArray)) (World.ownsRow_nil _ _ _ _) (Below.refl _ _)
  | some ad =>
    have hc := els_cells hB
    have ho : ∀ u ∈ L.map (fun s => Value.string s), u.oneCell' = true := fun u hu => by obtain ⟨x, _, rfl⟩ := List.mem_map.1 hu; rfl
    have HC := Lib.hid hc
    have HO := Lib.hid ho
    clear hc ho hB hcap
    go_enter Tryz.func14, Tryz.ntmps14
    go_wp2_with (at_builtin; refine wpList_append_own _ rfl _ _ _ rfl w.heap.size 9 i0 _ 1 16 Tryz.underlying28 hi hz0 hz1 hz2 rfl (by omega) (.slice none 0 0) 0 [] rfl (World.ownsRow_nil _ _ _ _) ad L.length cap (L.map fun s => Value.string s) rfl (by rw [List.length_map]; omega) HC.out HO.out (by unfold maxLen; omega) (by omega) (Nat.le_refl _) ?_; intro v1 w1 hown1 hg1 _)
    have HR := Lib.hid (own_els (d := ByteArray.empty) (by rw [Nat.zero_add, List.nil_append] at hown1; exact hown1) (below_grown (Below.refl _ _) (Nat.le_refl _) hg1 (fun b hb => by cases hb)))
    clear hown1 hg1
    go_ret
    exact HR.out
set_option maxHeartbeats 400000 in
theorem ints_any (A : Option Addr) (L : List Int) (cap : Nat) (w : World) (hl : L.length ≤ 1000) (hB : Is w A L) (hcap : A = none → cap = 0) :
    Calls Tryz.prog 15 #[.slice A L.length cap] w (OwnEls (fun z => .int .i64 z) 0 3 w L) := by
  obtain ⟨i0, hi, hz0, hz1, hz2⟩ := info_parts (show (Tryz.prog.info? 3).map (fun i => (i.zero, i.size, i.bytes)) = some (some (.int .i64 0), 1, 8) by kernel_rfl)
  cases A with
  | none =>
    obtain rfl := hcap rfl
    have h0 : L = [] := by
      cases L with
      | nil => rfl
      | cons c L => obtain ⟨b, off, e, _⟩ := hB (by simp); cases e
    subst h0
    go_enter Tryz.func15, Tryz.ntmps15
    go_wp2_with (at_builtin; refine wpList_append_own_none rfl _ _ _ rfl w.heap.size 3 i0 1 Tryz.underlying29 hi (.slice none 0 0) 0 [] rfl (World.ownsRow_nil _ _ _ _) rfl ?_)
    go_ret
    exact own_els (l := ([] : List Int)) (World.ownsRow_nil _ _ _ _) (Below.refl _ _)
  | some ad =>
    have hc := els_cells hB
    have ho : ∀ u ∈ L.map (fun z => Value.int .i64 z), u.oneCell' = true := fun u hu => by obtain ⟨x, _, rfl⟩ := List.mem_map.1 hu; rfl
    have HC := Lib.hid hc
    have HO := Lib.hid ho
    clear hc ho hB hcap
    go_enter Tryz.func15, Tryz.ntmps15
    go_wp2_with (at_builtin; refine wpList_append_own _ rfl _ _ _ rfl w.heap.size 3 i0 _ 1 8 Tryz.underlying29 hi hz0 hz1 hz2 rfl (by omega) (.slice none 0 0) 0 [] rfl (World.ownsRow_nil _ _ _ _) ad L.length cap (L.map fun z => Value.int .i64 z) rfl (by rw [List.length_map]; omega) HC.out HO.out (by unfold maxLen; omega) (by omega) (Nat.le_refl _) ?_; intro v1 w1 hown1 hg1 _)
    have HR := Lib.hid (own_els (d := (0 : Int)) (by rw [Nat.zero_add, List.nil_append] at hown1; exact hown1) (below_grown (Below.refl _ _) (Nat.le_refl _) hg1 (fun b hb => by cases hb)))
    clear hown1 hg1
    go_ret
    exact HR.out
end
end Go.Proofs.YtaihlfjbgljhlaaGreatDoor
