/- Several texts in one: Kit, OwnS, KitT. -/
import Derived.Test.YtbbblmedoagncaaGreatDoorGO
import Derived.Test.YtbbblmedoagncaaGreatDoorGJ
import Derived.Test.YtbbblmedoagncaaGreatDoorGW
import Derived.Test.YtbbblmedoagncaaGreatDoorGI
import Derived.Test.YtbbblmedoagncaaGreatDoorGG
import Derived.Test.YtbbblmedoagncaaGreatDoorGB
import Derived.Test.YtbbblmedoagncaaGreatDoorMLexRL
namespace Go.Proofs.YtbbblmedoagncaaGreatDoor
/- palaverlaw00.Tiny: where it is true, an expression has few parts and is not too deep. -/
section
open Go.RowKit

/-- How tiny ends. -/
def TinyEnd (w : World) (g : Nat) (d : Nat) (n : Int) (e : Ex) (en : Ending) (w' : World) : Prop :=
  ∃ (b : Bool) (m : Int), en = .returned (.bool b) ∧ Away g w w' ∧ Cnt w' g m ∧ n ≤ m ∧ m ≤ 301 ∧ (b = true → m ≤ 300 ∧ m = n + (nodes e : Int) ∧ d + deepE e ≤ 36)
/-- While the kids are gone through. -/
def KTin (w : World) (g : Nat) (d : Nat) (n : Int) (ks : List Ex) (j : Nat) (wr : World) : Prop :=
  ∃ m : Int, Cnt wr g m ∧ Away g w wr ∧ m ≤ 300 ∧ n + 1 ≤ m ∧ m + (nodesL (ks.drop j) : Int) = n + 1 + (nodesL ks : Int) ∧ (d + 1 + deepL (ks.drop j) ≤ 36 → d + 1 + deepL ks ≤ 36)
set_option maxHeartbeats 4000000 in
set_option maxRecDepth 100000 in
theorem tiny_all : ∀ (F : Nat) (e : Ex), nodes e ≤ F → ∀ (v : Value) (S : Nat → Prop) (w : World) (d : Nat) (n : Int) (g : Nat), ExIn w S e v → ¬ S g → Cnt w g n → 0 ≤ n → n ≤ 300 → d ≤ 36 →
    Calls Tryz.prog 31 #[v, .int .i64 (d : Int), .pointer (some ⟨g, 0, none⟩)] w (TinyEnd w g d n e)
  | 0, e, hF, _, _, _, _, _, _, _, _, _, _, _, _ => absurd hF (by have := nodes_pos e; omega)
  | F + 1, .mk op m s ks, hF, v, S, w, d, n, g, hv, hSg, hC, hn0, hn1, hd => by
    have IH := tiny_all F
    have hvv := hv
    obtain ⟨ao, cap, rfl, h2, h3, hr, hk⟩ := hv.get
    unfold Ex.op Ex.num Ex.str Ex.kids at *
    dsimp only at *
    have hgw := hC.lt
    have hX := four_new w (.int .i64 op) (.int .i64 m) (.string ⟨s.toArray⟩) (.slice ao ks.length cap) 24
    have hbX := below_alloc w (.cells #[.int .i64 op, .int .i64 m, .string ⟨s.toArray⟩, .slice ao ks.length cap] 24)
    have hCX := hC.later hbX
    have hsX := alloc_size w (.cells #[.int .i64 op, .int .i64 m, .string ⟨s.toArray⟩, .slice ao ks.length cap] 24)
    have hkX : 0 < ks.length → ∃ g2 o, ao = some ⟨g2, o, none⟩ ∧ S g2 ∧ g2 < (w.alloc (.cells #[.int .i64 op, .int .i64 m, .string ⟨s.toArray⟩, .slice ao ks.length cap] 24)).heap.size ∧ RowIn (w.alloc (.cells #[.int .i64 op, .int .i64 m, .string ⟨s.toArray⟩, .slice ao ks.length cap] 24)) S g2 o ks := fun h0 => by
      obtain ⟨g2, o, a, b, c, r⟩ := hk h0
      exact ⟨g2, o, a, b, Nat.lt_of_lt_of_le c hbX.size, RowIn.stays (.of hbX) ks g2 o b c r⟩
    obtain ⟨wX, hwX⟩ : ∃ wX, w.alloc (.cells #[.int .i64 op, .int .i64 m, .string ⟨s.toArray⟩, .slice ao ks.length cap] 24) = wX := ⟨_, rfl⟩
    rw [hwX] at hX hbX hCX hkX hsX
    have c0 := hCX.cell
    have f0 := hCX.fr
    have hwr : IntKind.i64.wrap (n + 1) = n + 1 := IntWalk.i64_in _ (by omega)
    have hC1 := hCX.set (n + 1)
    have hA1 := (Away.refl g wX).set 0 (.int .i64 (n + 1))
    have hX1 := hX.away hA1 (by omega)
    have hAw := (Away.of hbX (g := g)).trans hA1
    have HEND : Hid (∀ (b : Bool) (q : Int) (w' : World), Away g wX w' → Cnt w' g q → n ≤ q → q ≤ 301 → (b = true → q ≤ 300 ∧ q = n + (nodesL ks : Int) + 1 ∧ d + (deepL ks + 1) ≤ 36) → TinyEnd w g d n (.mk op m s ks) (.returned (.bool b)) w') := Lib.hid (fun b q w' ha hc h1 h2 h3 =>
      ⟨b, q, rfl, (Away.of hbX (g := g)).trans ha, hc, h1, h2, fun hb => by
        obtain ⟨a1, a2, a3⟩ := h3 hb
        rw [nodes, deepE]
        exact ⟨a1, by push_cast; omega, a3⟩⟩)
    have HC1 := Lib.hid hC1
    have HA1 := Lib.hid hA1
    have HX1 := Lib.hid hX1
    obtain ⟨-, y0, y1, y2, y3, -⟩ := hX1
    have hX' := hX
    obtain ⟨-, x0, x1, x2, x3, -⟩ := hX'
    by_cases hn : 300 < n + 1
    · clear IH hX hvv hv hk hkX hC hCX hC1 hA1 hAw hbX
      go_enter Tryz.func31, Tryz.ntmps31
      go_wp2_with fail
      exact bodyPost_ret (v := .bool false) (by simp [results, Tryz.results31, go_sem]) rfl (HEND.out false (n + 1) _ HA1.out HC1.out (by omega) (by omega) (fun h => by cases h))
    by_cases hdd : 35 < d
    · have hdz : (35 : Int) < (d : Int) := by omega
      clear IH hX hvv hv hk hkX hC hCX hC1 hA1 hAw hbX
      go_enter Tryz.func31, Tryz.ntmps31
      go_wp2_with fail
      exact bodyPost_ret (v := .bool false) (by simp [results, Tryz.results31, go_sem]) rfl (HEND.out false (n + 1) _ HA1.out HC1.out (by omega) (by omega) (fun h => by cases h))
    have hdz : ¬ (35 : Int) < (d : Int) := by omega
    have hsl : (⟨s.toArray⟩ : ByteArray).size = s.length := by simp [ByteArray.size]
    by_cases hss : 1000 < s.length
    · have hsz : (1000 : Int) < ((⟨s.toArray⟩ : ByteArray).size : Int) := by rw [hsl]; omega
      clear IH hX hvv hv hk hkX hC hCX hC1 hA1 hAw hbX hsl
      generalize (⟨s.toArray⟩ : ByteArray) = T at *
      go_enter Tryz.func31, Tryz.ntmps31
      go_wp2_with fail
      exact bodyPost_ret (v := .bool false) (by simp [results, Tryz.results31, go_sem]) rfl (HEND.out false (n + 1) _ HA1.out HC1.out (by omega) (by omega) (fun h => by cases h))
    have hsz : ¬ (1000 : Int) < ((⟨s.toArray⟩ : ByteArray).size : Int) := by rw [hsl]; omega
    have HR : Hid (KTin wX g d n ks 0 (wX.setCell ⟨g, 0, none⟩ (.int .i64 (n + 1)))) := Lib.hid ⟨n + 1, hC1, hA1, by omega, by omega, by rw [List.drop_zero], by rw [List.drop_zero]; exact id⟩
    have HK := Lib.hid hkX
    have HX := Lib.hid hX
    have HSg := Lib.hid hSg
    have hgX : g < wX.heap.size := by omega
    clear hX hvv hv hk hkX hC hCX hC1 hA1 hAw hbX hss hsl hSg HX1 HC1 HA1
    generalize (⟨s.toArray⟩ : ByteArray) = T at *
    go_enter Tryz.func31, Tryz.ntmps31
    go_wp2_with fail
    go_loopg [7] (ks.length) (fun a si wr => ∃ (j : Nat), j + a = ks.length ∧ si = .int .i64 (j : Int) ∧ Hid (KTin wX g d n ks j wr))
    case atStart => exact ⟨0, by omega, rfl, HR⟩
    case round =>
      obtain ⟨j, hja, rfl, HW⟩ := hrel
      clear HR c0 f0 x0 x1 x2 x3 y0 y1 y2 y3
      have HJ := Lib.hid hja
      obtain ⟨q, hCq, hAq, q1, q2, q3, q4⟩ := HW.out
      have hXq := HX.out.away hAq (by omega)
      have hgq := hCq.lt
      by_cases hjk : j < ks.length
      · have hjz : (j : Int) < (ks.length : Int) := by omega
        obtain ⟨g2, o, rfl, hS, hg, hrow⟩ := HK.out (by omega)
        have hx : ks[j]? = some ks[j] := List.getElem?_eq_getElem hjk
        have hrow2 := RowIn.stays (.away hAq HSg.out) ks g2 o hS hg hrow
        obtain ⟨v0, v1, v2, v3, c0, c1, c2, c3, he⟩ := hrow2.at hx
        obtain ⟨ao2, cap2, hev, -⟩ := he.get
        obtain ⟨rfl, rfl, rfl, rfl⟩ := agg4 hev
        clear hev
        have hgr : g2 < wr.heap.size := Nat.lt_of_lt_of_le hg hAq.size
        have hkn : nodes ks[j] ≤ F := by
          have := nodes_kid (List.getElem_mem hjk)
          rw [nodes] at hF
          omega
        have cI := IH ks[j] hkn _ S _ (d + 1) q g he HSg.out hCq (by omega) q1 (by omega)
        rw [Int.natCast_add, Int.natCast_one] at cI
        have hdr := List.drop_eq_getElem_cons hjk
        have q3' : q + (nodes ks[j] : Int) + (nodesL (ks.drop (j + 1)) : Int) = n + 1 + (nodesL ks : Int) := by
          rw [hdr, nodesL] at q3; push_cast at q3; omega
        have q4' : d + 1 + deepE ks[j] ≤ 36 → d + 1 + deepL (ks.drop (j + 1)) ≤ 36 → d + 1 + deepL ks ≤ 36 := fun a b => q4 (by rw [hdr, deepL]; omega)
        have HQ3 := Lib.hid q3'
        have HQ4 := Lib.hid q4'
        have HAT := Lib.hid hAq
        obtain ⟨-, y0, y1, y2, y3, -⟩ := hXq
        clear HW hrow hrow2 he hCq hAq HK hja hx IH hdr q3 q4 q3' q4'
        go_wp2_with fail
        refine cI.mono ?_
        rintro en w2 ⟨b, m2, rfl, a2, C2, m0, m1, hb⟩
        have HM := Lib.hid hb
        clear cI hb
        cases b with
        | false =>
          go_wp2_with fail
          exact bodyPost_ret (v := .bool false) (by simp [results, Tryz.results31, go_sem]) rfl (HEND.out false m2 _ (HAT.out.trans a2) C2 (by omega) (by omega) (fun h => by cases h))
        | true =>
          obtain ⟨k1, k2, k3⟩ := HM.out rfl
          have HK3 := Lib.hid k3
          have HK2 := Lib.hid k2
          clear HM k3 k2
          go_wp2_with fail
          go_roundg (ks.length - (j + 1))
          case measure => have := HJ.out; omega
          case rel => exact ⟨j + 1, by have := HJ.out; omega, by go_num, Lib.hid ⟨m2, C2, HAT.out.trans a2, k1, by omega, by rw [HK2.out]; exact HQ3.out, HQ4.out HK3.out⟩⟩
      · have hjz : ¬ (j : Int) < (ks.length : Int) := by omega
        have hj : j = ks.length := by have := HJ.out; omega
        obtain ⟨-, y0, y1, y2, y3, -⟩ := hXq
        have HQ : Hid (q = n + (nodesL ks : Int) + 1 ∧ d + (deepL ks + 1) ≤ 36) := Lib.hid (by
          rw [hj, List.drop_length] at q3 q4
          rw [nodesL] at q3
          rw [deepL] at q4
          have := q4 (by omega)
          exact ⟨by push_cast at q3; omega, by omega⟩)
        have HCq := Lib.hid hCq
        have HAq := Lib.hid hAq
        clear HW HK hja IH hj hCq hAq q3 q4
        go_wp2_with fail
        exact bodyPost_ret (v := .bool true) (by simp [results, Tryz.results31, go_sem]) rfl (HEND.out true q _ HAq.out HCq.out (by omega) (by omega) (fun _ => ⟨q1, HQ.out⟩))
set_option maxHeartbeats 2000000 in
set_option maxRecDepth 100000 in
/-- palaverlaw00.Tiny. -/
theorem tinyE_any (e : Ex) (v : Value) (S : Nat → Prop) (w : World) (hv : ExIn w S e v) :
    Calls Tryz.prog 6 #[v] w fun en w' => ∃ b : Bool, en = .returned (.bool b) ∧ Below w.heap.size w w' ∧ (b = true → nodes e ≤ 300 ∧ deepE e ≤ 36) := by
  obtain ⟨ao, cap, rfl, h2, h3, hr, hk⟩ := hv.get
  have hX := four_new w (.int .i64 e.op) (.int .i64 e.num) (.string ⟨e.str.toArray⟩) (.slice ao e.kids.length cap) 24
  have hbX := below_alloc w (.cells #[.int .i64 e.op, .int .i64 e.num, .string ⟨e.str.toArray⟩, .slice ao e.kids.length cap] 24)
  have hsX := alloc_size w (.cells #[.int .i64 e.op, .int .i64 e.num, .string ⟨e.str.toArray⟩, .slice ao e.kids.length cap] 24)
  have hvX := (hv.later hbX).wide (R := fun b => b < (w.alloc (.cells #[.int .i64 e.op, .int .i64 e.num, .string ⟨e.str.toArray⟩, .slice ao e.kids.length cap] 24)).heap.size) (fun b _ h => h)
  obtain ⟨wX, hwX⟩ : ∃ wX, w.alloc (.cells #[.int .i64 e.op, .int .i64 e.num, .string ⟨e.str.toArray⟩, .slice ao e.kids.length cap] 24) = wX := ⟨_, rfl⟩
  rw [hwX] at hX hbX hsX hvX
  have hb1 := below_alloc wX (.cells #[.int .i64 0] 3)
  have hv2 := hvX.later hb1
  have hX1 := hX.later hb1
  have hC : Cnt (wX.alloc (.cells #[.int .i64 0] 3)) wX.heap.size 0 := alloc_at wX _
  have c := tiny_all (nodes e) e (Nat.le_refl _) _ _ _ 0 0 wX.heap.size hv2 (Nat.lt_irrefl _) hC (by decide) (by decide) (by decide)
  rw [show ((0 : Nat) : Int) = 0 from rfl, hsX] at c
  have HE : Hid (∀ w', Away (w.heap.size + 1) (wX.alloc (.cells #[.int .i64 0] 3)) w' → Below w.heap.size w w') := Lib.hid (fun w' h => below_to hbX (hb1.trans ((hsX ▸ h : Away wX.heap.size _ w').below (Nat.le_refl _) hb1.size)))
  obtain ⟨-, x0, x1, x2, x3, -⟩ := hX1
  clear hv hvX hv2 hb1 hX hC hk hbX
  go_enter Tryz.func6, Tryz.ntmps6
  go_wp2_with fail
  refine c.mono ?_
  rintro en w1 ⟨b, m, rfl, a1, C1, m0, m1, hb⟩
  have HB := Lib.hid (show b = true → nodes e ≤ 300 ∧ deepE e ≤ 36 from fun h => by obtain ⟨k1, k2, k3⟩ := hb h; omega)
  have HW := Lib.hid (HE.out w1 a1)
  clear hb c HE a1 C1
  go_wp2_with fail
  exact bodyPost_ret (v := .bool b) (by simp [results, Tryz.results6, go_sem]) rfl ⟨b, rfl, HW.out, HB.out⟩
end
/- An own row's growth; a text in a block. -/
section
open Go.RowKit

theorem one_news (w : World) (x : Value) (t : TypeId) : ∀ (j : Nat) (u : Value), [x][j]? = some u → (w.alloc (.cells #[x] t)).cell? ((⟨w.heap.size, 0, none⟩ : Addr).add j) = some u := by
  intro j u hj
  have e : (⟨w.heap.size, 0, none⟩ : Addr).add j = ⟨w.heap.size, j, none⟩ := by unfold Addr.add; split <;> simp_all
  rw [e, cells_of_alloc]
  simpa using hj
theorem str_cell (s : ByteArray) : ∀ u ∈ [Value.string s], u.oneCell' = true := by simp [Value.oneCell']
theorem below_grown {B : Nat} {a w w' : World} {row : Option Nat} (h : Below B a w) (hB : B ≤ a.heap.size) (hg : w.grownBy w' row) (hr : ∀ b, row = some b → B ≤ b) : Below B a w' :=
  ⟨hg.os.trans h.os, hg.tape.trans h.tape, hg.output.trans h.output, Nat.le_trans h.size hg.size, fun i hi => (hg.block i (Nat.lt_of_lt_of_le hi (Nat.le_trans hB h.size)) (fun e => by have := hr i e.symm; omega)).trans (h.block i hi)⟩
theorem all_kid {k : Ex} : ∀ {ks : List Ex}, allBL ks = true → k ∈ ks → allB k = true
  | x :: xs, ha, h => by
    rw [allBL] at ha
    simp only [Bool.and_eq_true] at ha
    rcases List.mem_cons.1 h with rfl | h
    · exact ha.1
    · exact all_kid ha.2 h
end
/- palaverlaw00.Texts, Ints: a list in new memory. -/
section
open Go.RowKit

section
variable {α : Type} {f : α → Value} {d : α} {w : World}
/-- A row of the call's own holds them. -/
theorem els_own {B : Nat} {e : TypeId} {v : Value} {l : List α} (h : w.ownsRow B e 1 v l.length (l.map f)) : ∃ A cap, v = .slice A l.length cap ∧ l.length ≤ cap ∧ Els f d w A l ∧ (A = none → cap = 0) := by
  have h' := h
  rcases h.2 with ⟨rfl, hn⟩ | ⟨g, cap, cur, rfl, hbg, hg, hnc, hcm, rest⟩
  · exact ⟨none, 0, by rw [hn], by omega, fun hp => absurd hp (by omega), fun _ => rfl⟩
  · refine ⟨_, cap, rfl, hnc, fun _ => ⟨g, 0, rfl, fun j hj => ?_⟩, fun h => by cases h⟩
    rw [Nat.zero_add, h'.cellAt j (by omega)]
    rw [List.getElem?_map, List.getElem?_eq_getElem hj, List.getD_eq_getElem?_getD, List.getElem?_eq_getElem hj]
    rfl
theorem els_cells {ad : Addr} {l : List α} (h : Els f d w (some ad) l) : ∀ j u, (l.map f)[j]? = some u → w.cell? (ad.add j) = some u := by
  intro j u hu
  have hj : j < l.length := by
    have := (List.getElem?_eq_some_iff.1 hu).1
    rwa [List.length_map] at this
  obtain ⟨b, off, e, hc⟩ := h (by omega)
  injection e with e
  subst e
  have e2 : (⟨b, off, none⟩ : Addr).add j = ⟨b, off + j, none⟩ := by unfold Addr.add; split <;> simp_all
  rw [e2, hc j hj, ← hu, List.getElem?_map, List.getElem?_eq_getElem hj, List.getD_eq_getElem?_getD, List.getElem?_eq_getElem hj]
  rfl
end
/-- How a list in new memory ends. -/
def OwnEls {α : Type} (f : α → Value) (d : α) (t : TypeId) (w : World) (l : List α) (e : Ending) (w' : World) : Prop :=
  ∃ A cap, e = .returned (.slice A l.length cap) ∧ l.length ≤ cap ∧ Els f d w' A l ∧ (A = none → cap = 0) ∧ w'.ownsRow w.heap.size t 1 (.slice A l.length cap) l.length (l.map f) ∧ Below w.heap.size w w'
theorem own_els {α : Type} {f : α → Value} {d : α} {t : TypeId} {w w1 : World} {v : Value} {l : List α} (h : w1.ownsRow w.heap.size t 1 v l.length (l.map f)) (hb : Below w.heap.size w w1) : OwnEls f d t w l (.returned v) w1 := by
  obtain ⟨A, cap, rfl, h1, h2, h3⟩ := els_own (d := d) h
  exact ⟨A, cap, rfl, h1, h2, h3, h, hb⟩
set_option maxHeartbeats 400000 in
theorem texts_any (A : Option Addr) (L : List ByteArray) (cap : Nat) (w : World) (hl : L.length ≤ 1000) (hB : Ts w A L) (hcap : A = none → cap = 0) :
    Calls Tryz.prog 22 #[.slice A L.length cap] w (OwnEls (fun s => .string s) ByteArray.empty 9 w L) := by
  obtain ⟨i0, hi, hz0, hz1, hz2⟩ := info_parts (show (Tryz.prog.info? 9).map (fun i => (i.zero, i.size, i.bytes)) = some (some (.string ⟨#[]⟩), 1, 16) by kernel_rfl)
  cases A with
  | none =>
    obtain rfl := hcap rfl
    have h0 : L = [] := by
      cases L with
      | nil => rfl
      | cons c L => obtain ⟨b, off, e, _⟩ := hB (by simp); cases e
    subst h0
    go_enter Tryz.func22, Tryz.ntmps22
    go_wp2_with (at_builtin; refine wpList_append_own_none rfl _ _ _ rfl w.heap.size 9 i0 1 Tryz.underlying30 hi (.slice none 0 0) 0 [] rfl (World.ownsRow_nil _ _ _ _) rfl ?_)
    go_ret
    exact own_els (l := ([] : List ByteArray)) (World.ownsRow_nil _ _ _ _) (Below.refl _ _)
  | some ad =>
    have hc := els_cells hB
    have ho : ∀ u ∈ L.map (fun s => Value.string s), u.oneCell' = true := fun u hu => by obtain ⟨x, _, rfl⟩ := List.mem_map.1 hu; rfl
    have HC := Lib.hid hc
    have HO := Lib.hid ho
    clear hc ho hB hcap
    go_enter Tryz.func22, Tryz.ntmps22
    go_wp2_with (at_builtin; refine wpList_append_own _ rfl _ _ _ rfl w.heap.size 9 i0 _ 1 16 Tryz.underlying30 hi hz0 hz1 hz2 rfl (by omega) (.slice none 0 0) 0 [] rfl (World.ownsRow_nil _ _ _ _) ad L.length cap (L.map fun s => Value.string s) rfl (by rw [List.length_map]; omega) HC.out HO.out (by unfold maxLen; omega) (by omega) (Nat.le_refl _) ?_; intro v1 w1 hown1 hg1 _)
    have HR := Lib.hid (own_els (d := ByteArray.empty) (by rw [Nat.zero_add, List.nil_append] at hown1; exact hown1) (below_grown (Below.refl _ _) (Nat.le_refl _) hg1 (fun b hb => by cases hb)))
    clear hown1 hg1
    go_ret
    exact HR.out
end
end Go.Proofs.YtbbblmedoagncaaGreatDoor
