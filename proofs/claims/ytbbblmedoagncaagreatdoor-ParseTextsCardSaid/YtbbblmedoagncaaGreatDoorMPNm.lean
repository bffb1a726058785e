/- parse.Names: the names in an expression that the call itself has made, in rising order, each once. -/
import Derived.Test.YtbbblmedoagncaaGreatDoorMPNb
import Derived.Test.YtbbblmedoagncaaGreatDoorMPNs
import Derived.Shelf.Slices.CompactS
import Derived.Shelf.Slices.In.SortNone
import Derived.Shelf.Sort.Plain
import Derived.Sort.OwnSorted
import Derived.Sort.Grow
import Derived.Lib.OwnBridge
namespace Go.Proofs.YtbbblmedoagncaaGreatDoor
open Go.RowKit Go.Shelf Go.Sort
set_option linter.unusedSimpArgs false

theorem one_news1 (w : World) (x : Value) (t : TypeId) : ∀ (j : Nat) (u : Value), [x][j]? = some u → (w.alloc (.cells #[x] t)).cell? ((⟨w.heap.size, 0, none⟩ : Addr).add j) = some u := by
  intro j u hj
  have e : (⟨w.heap.size, 0, none⟩ : Addr).add j = ⟨w.heap.size, j, none⟩ := by unfold Addr.add; split <;> simp_all
  rw [e, cells_of_alloc]
  simpa using hj
theorem str_cell1 (s : ByteArray) : ∀ u ∈ [Value.string s], u.oneCell' = true := by simp [Value.oneCell']
/-- How it ends. -/
def PNEnd (w : World) (a : Ex) (e : Ending) (w' : World) : Prop :=
  Below w.heap.size w w' ∧ ∃ v' L', e = .returned v' ∧ w'.ownsRow w.heap.size 9 1 v' L'.length (L'.map Value.string) ∧ (∀ x, x ∈ L' ↔ x ∈ pnE a) ∧ RiseB L' ∧ L'.length ≤ nodes a
theorem pn_start (w : World) (a : Ex) (S : Nat → Prop) (op n : Int) (s : ByteArray) (ka : Value) (ha : ExIn w S a (EV op n s ka)) (hS : ¬ S 0) (w1 : World)
    (hw1 : ((w.alloc (.cells #[.int .i64 op, .int .i64 n, .string s, ka] 24)).alloc (.map #[] 0)).alloc (.cells #[.int .i64 op, .int .i64 n, .string s, ka] 24) = w1) :
    Below w.heap.size w w1 ∧ w1.heap.size = w.heap.size + 3 ∧ MapR w1 (w.heap.size + 1) [] ∧
      NSt w1 (w.heap.size + 1) 22 9 (pnE a) (w1.alloc (.cells #[.slice (some ⟨w.heap.size + 1 + 1, 0, none⟩) 1 1] 22)) (.slice (some ⟨w1.heap.size, 0, none⟩) 1 1) (.slice none 0 0) [⟨[a], w.heap.size + 1 + 1, 0, 1⟩] [] [] := by
  subst hw1
  have b1 := below_alloc w (.cells #[.int .i64 op, .int .i64 n, .string s, ka] 24)
  have s1 := alloc_size w (.cells #[.int .i64 op, .int .i64 n, .string s, ka] 24)
  generalize w.alloc (.cells #[.int .i64 op, .int .i64 n, .string s, ka] 24) = wa at *
  have b2 := below_alloc wa (.map #[] 0)
  have s2 := alloc_size wa (.map #[] 0)
  have m2 := MapR.new wa
  generalize wa.alloc (.map #[] 0) = wb at *
  have b3 := below_alloc wb (.cells #[.int .i64 op, .int .i64 n, .string s, ka] 24)
  have s3 := alloc_size wb (.cells #[.int .i64 op, .int .i64 n, .string s, ka] 24)
  have m3 := alloc_at wb (.cells #[.int .i64 op, .int .i64 n, .string s, ka] 24)
  generalize wb.alloc (.cells #[.int .i64 op, .int .i64 n, .string s, ka] 24) = wd at *
  have B := below_to (below_to b1 b2) b3
  have e1 : w.heap.size + 1 = wa.heap.size := by omega
  have e2 : wa.heap.size + 1 = wb.heap.size := by omega
  rw [e1, e2]
  have hM : MapR wd wa.heap.size [] := m2.same (b3.block _ m2.lt)
  have he : ExIn wd (Sp wa.heap.size) a (EV op n s ka) := (ha.wide (R := Sp wa.heap.size) fun b hb hl => ⟨Nat.pos_of_ne_zero fun e => hS (by rw [← e]; exact hb), by omega⟩).later B
  have hok : OpL.ok wd wa.heap.size (pnE a) ⟨[a], wb.heap.size, 0, 1⟩ := by
    refine ⟨by dsimp only; omega, ⟨by dsimp only; omega, by dsimp only; omega⟩, ?_, by simp, by simp, by simp, fun s hs => by simpa [pnL] using hs⟩
    refine RowIn.one (v0 := .int .i64 op) (v1 := .int .i64 n) (v2 := .string s) (v3 := ka) ⟨_, _, m3⟩ ?_ ?_ ?_ ?_ he RowIn.none
    all_goals simp [World.cell?, m3]
  have bo := below_alloc wd (.cells #[.slice (some ⟨wb.heap.size, 0, none⟩) 1 1] 22)
  refine ⟨B, by omega, hM, ⟨(Away.refl _ wd).alloc _, ?_, ?_, hM.same (bo.block _ hM.lt), fun q hq => (by cases hq), fun p hp => ?_, fun s hs => (by cases hs)⟩⟩
  · exact ⟨rfl, .inr ⟨wd.heap.size, 1, #[.slice (some ⟨wb.heap.size, 0, none⟩) 1 1], rfl, Nat.le_refl _, alloc_at wd _, Nat.le_refl _, by unfold maxLen; omega, rfl, rfl⟩⟩
  · exact World.ownsRow_nil _ _ _ _
  · obtain rfl : p = ⟨[a], wb.heap.size, 0, 1⟩ := by simpa using hp
    exact hok
theorem enc_map (N : List ByteArray) : N.map Value.string = (N.map fun s => s.data.toList).map encStr := by
  rw [List.map_map]
  exact List.map_congr_left fun s _ => by simp [encStr]
theorem enc_back (L : List (List UInt8)) : L.map encStr = (L.map fun l => (⟨l.toArray⟩ : ByteArray)).map Value.string := by
  rw [List.map_map]
  exact List.map_congr_left fun s _ => by simp [encStr]
theorem back_map (L : List (List UInt8)) : (L.map fun l => (⟨l.toArray⟩ : ByteArray)).map (fun s => s.data.toList) = L := by
  rw [List.map_map]
  conv => rhs; rw [← List.map_id L]
  exact List.map_congr_left fun s _ => by simp
/-- Sorted and each once, as the row holds it. -/
theorem pn_left {w w1 : World} {B g cap n nn q : Nat} {os : Array Obj} {ss : List (List UInt8)} (hown : w1.ownsRow B 9 1 (.slice (some ⟨g, 0, none⟩) n cap) n (ss.map encStr)) (hbel : Below w.heap.size w w1) (hwB : w.heap.size ≤ B) (hlen : ss.length = n) :
    (putRow encStr (Sort.ahead (grow (putRow encStr (Sort.ahead w1 nn) g 0 (ss.mergeSort fun x y => decide (x ≤ y)).toArray) os) q) g 0 (Lib.compact (ss.mergeSort fun x y => decide (x ≤ y)) ++ List.replicate (n - (Lib.compact (ss.mergeSort fun x y => decide (x ≤ y))).length) []).toArray).ownsRow w.heap.size 9 1 (.slice (some ⟨g, 0, none⟩) (Lib.compact (ss.mergeSort fun x y => decide (x ≤ y))).length cap) (Lib.compact (ss.mergeSort fun x y => decide (x ≤ y))).length ((Lib.compact (ss.mergeSort fun x y => decide (x ≤ y))).map encStr) ∧
      Below w.heap.size w (putRow encStr (Sort.ahead (grow (putRow encStr (Sort.ahead w1 nn) g 0 (ss.mergeSort fun x y => decide (x ≤ y)).toArray) os) q) g 0 (Lib.compact (ss.mergeSort fun x y => decide (x ≤ y)) ++ List.replicate (n - (Lib.compact (ss.mergeSort fun x y => decide (x ≤ y))).length) []).toArray) := by
  have hl2 : (ss.mergeSort fun x y => decide (x ≤ y)).length = ss.length := List.length_mergeSort ss
  have hle := Lib.compact_length_le (ss.mergeSort fun x y => decide (x ≤ y))
  subst hlen
  rcases hown.2 with ⟨h0, _⟩ | ⟨g', cap', cur, hv, hbase, hb, h1, h2, h3, h4⟩
  · cases h0
  cases hv
  have hs := ownsRow_sorted (n := nn) (os := os) (ts := ss.mergeSort fun x y => decide (x ≤ y)) hl2 (Nat.le_trans hwB hbase) hb h1 h2 h3
  have hc := Lib.ownsRow_putRow (q := q) (k := (Lib.compact (ss.mergeSort fun x y => decide (x ≤ y))).length) (ys := Lib.compact (ss.mergeSort fun x y => decide (x ≤ y)) ++ List.replicate (ss.length - (Lib.compact (ss.mergeSort fun x y => decide (x ≤ y))).length) []) hs (by simp; omega) (by omega)
  rw [List.take_left] at hc
  exact ⟨hc, Lib.below_putRow (hbel.grown (grownBy_sorted _) hbel.size (fun j hj => by cases hj; exact Nat.le_trans hwB hbase)) (Nat.le_trans hwB hbase)⟩
theorem pn_end {w w' : World} {a : Ex} {N : List ByteArray} {v : Value} (hB : Below w.heap.size w w') (hN : ∀ x, x ∈ N ↔ x ∈ pnE a) (hl : N.length ≤ nodes a)
    (ho : w'.ownsRow w.heap.size 9 1 v (Lib.compact ((N.map fun s => s.data.toList).mergeSort fun x y => decide (x ≤ y))).length ((Lib.compact ((N.map fun s => s.data.toList).mergeSort fun x y => decide (x ≤ y))).map encStr)) : PNEnd w a (.returned v) w' := by
  have hr := sorted_rise (N.map fun s => s.data.toList)
  have hm := sorted_mem (N.map fun s => s.data.toList)
  have hle := Lib.compact_length_le ((N.map fun s => s.data.toList).mergeSort fun x y => decide (x ≤ y))
  rw [List.length_mergeSort, List.length_map] at hle
  generalize Lib.compact ((N.map fun s => s.data.toList).mergeSort fun x y => decide (x ≤ y)) = C at *
  refine ⟨hB, v, C.map fun l => ⟨l.toArray⟩, rfl, by rw [List.length_map, ← enc_back]; exact ho, fun x => ?_, by unfold RiseB; rw [back_map]; exact hr, by rw [List.length_map]; omega⟩
  rw [List.mem_map]
  constructor
  · rintro ⟨l, hl, rfl⟩
    obtain ⟨s, hs, e⟩ := List.mem_map.1 ((hm l).1 hl)
    rw [show (⟨l.toArray⟩ : ByteArray) = s by rw [← e]]
    exact (hN s).1 hs
  · intro hx
    exact ⟨x.data.toList, (hm _).2 (List.mem_map.2 ⟨x, (hN x).2 hx, rfl⟩), by simp⟩
set_option maxHeartbeats 8000000 in
set_option maxRecDepth 100000 in
theorem pnames_any (a : Ex) (va : Value) (S : Nat → Prop) (w : World) (ha : ExIn w S a va) (hS : ¬ S 0) (hn : nodes a ≤ 1000000) :
    Calls Tryz.prog 13 #[va] w (PNEnd w a) := by
  obtain ⟨ao, ac, rfl, a2, a3, ar, -⟩ := ha.get
  have hSt := fun w1 h => pn_start w a S _ _ _ _ ha hS w1 h
  have hnl : nodesL [a] = nodes a := by simp [nodesL]
  generalize a.op = aop at *
  generalize a.num = an at *
  generalize (⟨a.str.toArray⟩ : ByteArray) = as_ at *
  generalize a.kids.length = al at *
  have hmk := make_map1
  obtain ⟨w1, hw1⟩ : ∃ w1, ((w.alloc (.cells #[.int .i64 aop, .int .i64 an, .string as_, .slice ao al ac] 24)).alloc (.map #[] 0)).alloc (.cells #[.int .i64 aop, .int .i64 an, .string as_, .slice ao al ac] 24) = w1 := ⟨_, rfl⟩
  obtain ⟨hB1, hz1, hM1, hst⟩ := hSt w1 hw1
  have HSW := Lib.hid hst
  have HCV : Hid (CoverP w1 (w.heap.size + 1 + 1, 0, 1) [] [] [⟨[a], w.heap.size + 1 + 1, 0, 1⟩] (fun _ => False)) := Lib.hid (CoverP.start w1 ⟨[a], w.heap.size + 1 + 1, 0, 1⟩)
  have HROOT : Hid (OpL.ok w1 (w.heap.size + 1) (pnE a) ⟨[a], w.heap.size + 1 + 1, 0, 1⟩) := Lib.hid (hst.ok _ (by simp))
  have HMge : Hid (w.heap.size ≤ w.heap.size + 1) := Lib.hid (by omega)
  obtain ⟨i0, hi, hj0, hj1, hj2⟩ := info_parts (show (Tryz.prog.info? 22).map (fun i => (i.zero, i.size, i.bytes)) = some (some (.slice none 0 0), 1, 24) by kernel_rfl)
  obtain ⟨i9, hi9, hk0, hk1, hk2⟩ := info_parts (show (Tryz.prog.info? 9).map (fun i => (i.zero, i.size, i.bytes)) = some (some (.string ⟨#[]⟩), 1, 16) by kernel_rfl)
  have HB1 := Lib.hid hB1
  have HM1 := Lib.hid hM1
  have hst0 : openN [⟨[a], w.heap.size + 1 + 1, 0, 1⟩] ≤ nodes a := by simp [openN, nodesL]
  have HNA := Lib.hid hn
  clear ha hSt hB1 hz1 hM1 hst hnl
  go_enter Tryz.func13, Tryz.ntmps13
  go_wp2_with fail
  generalize w.heap.size + 1 + 1 = R0 at *
  generalize hMM : w.heap.size + 1 = M at *
  go_loopg [3, 5] (nodes a) (fun n s3 s5 wr => ∃ (L : List OpL) (K : List PKey) (N : List ByteArray), openN L ≤ n ∧ Hid (N.length + openN L ≤ nodes a) ∧ Hid (NSt w1 M 22 9 (pnE a) wr s5 s3 L K N) ∧ Hid (N = [] → s3 = .slice none 0 0) ∧ Hid (CoverP w1 (R0, 0, 1) K N L (fun _ => False)))
  case atStart => exact ⟨_, [], [], hst0, Lib.hid (by simpa using hst0), HSW, Lib.hid (fun _ => rfl), HCV⟩
  case round =>
    obtain ⟨L, K, N, hN, HBN, HW, HNIL, HC⟩ := hrel
    clear hst0 HSW hw1 hmk HCV
    obtain ⟨G, hG⟩ : ∃ G, G = gk := ⟨_, rfl⟩
    subst hG
    have hW := HW.out
    have HAWR := Lib.hid hW.away
    obtain ⟨ao5, cap5, rfl, hc5, hm5, hr5⟩ := own_slice hW.own
    rcases (show L = [] ∨ ∃ L' p, L = L' ++ [p] by rcases List.eq_nil_or_concat L with h | ⟨L', p, h⟩; exact .inl h; exact .inr ⟨L', p, by rw [h, List.concat_eq_append]⟩) with rfl | ⟨L', p, rfl⟩
    · have HA := Lib.hid (hW.away.below (B := w.heap.size) HMge.out HB1.out.size)
      have hall : ∀ s ∈ pnL [a], s ∈ N := cover_all (w1 := w1) (M := M) (root := (R0, 0, 1)) (K := K) (fun p hp => by
        rcases HC.out p hp with ⟨q, hq, _⟩ | h | h
        · cases hq
        · exact h.elim
        · exact h) (nodesL [a]) [a] R0 0 (Nat.le_refl _) HROOT.out.row (.inl rfl)
      have HMEM : Hid (∀ x, x ∈ N ↔ x ∈ pnE a) := Lib.hid fun s => ⟨hW.snd s, fun h => hall s (by simpa [pnL] using h)⟩
      have HLN : Hid (N.length ≤ nodes a) := Lib.hid (by have := HBN.out; omega)
      have hW1 := HB1.out.size
      rw [List.length_nil]
      by_cases hN0 : N = []
      · have h3 := HNIL.out hN0
        subst h3
        subst hN0
        have HEND : Hid (PNEnd w a (.returned (.slice none 0 0)) wr) := Lib.hid ⟨HB1.out.trans HA.out, _, [], rfl, World.ownsRow_nil _ _ _ _, HMEM.out, by simp [RiseB, Rise], by simp⟩
        have cS : Calls Tryz.prog 39 #[.slice none 0 0] wr fun e w' => e = .returned (.tuple #[]) ∧ w' = wr := Any.slices_Sort_string_none Tryz.more190 none 0 wr
        have cC : Calls Tryz.prog 40 #[.slice none 0 0] wr fun e w' => e = .returned (.slice none 0 0) ∧ w' = wr := Any.slices_Compact_string_empty Tryz.more194 none 0 wr
        clear hW HW hr5 hall HA HMEM HLN
        go_wp2_with fail
        refine cS.mono ?_
        rintro e w2 ⟨rfl, rfl⟩
        go_wp2_with fail
        refine cC.mono ?_
        rintro e w2 ⟨rfl, rfl⟩
        go_wp2_with fail
        exact bodyPost_ret (v := .slice none 0 0) (by simp [results, Tryz.results13, go_sem]) rfl HEND.out
      · have hown := hW.nam
        rw [enc_map] at hown
        have hnn : u3 ≠ .slice none 0 0 := by
          intro e
          obtain ⟨ao, cap, e2, -, -, h⟩ := own_slice hW.nam
          rw [e] at e2
          injection e2 with _ e2 _
          exact hN0 (List.length_eq_zero_iff.1 e2.symm)
        obtain ⟨gn, capn, rfl, hbg, hgl, hncap, hcm, hlen, hH⟩ := Lib.holds_of_ownsRow hown hnn
        have hbig : N.length ≤ 1000000 := by have := HLN.out; have := HNA.out; omega
        have HFIN := Lib.hid (fun (v : Value) (w' : World) hB ho => pn_end (w := w) (w' := w') (a := a) (N := N) (v := v) hB HMEM.out HLN.out ho)
        obtain ⟨ss, hss⟩ : ∃ ss : List (List UInt8), (N.map fun s => s.data.toList) = ss := ⟨_, rfl⟩
        rw [hss] at hown hlen hH HFIN
        have HL := Lib.hid (fun nn os q => pn_left (q := q) (nn := nn) (os := os) hown (HB1.out.trans HA.out) hW1 hlen)
        obtain ⟨ms, hms⟩ : ∃ ms : List (List UInt8), (ss.mergeSort fun x y => decide (x ≤ y)) = ms := ⟨_, rfl⟩
        have hml : ms.length = N.length := by rw [← hms, List.length_mergeSort, hlen]
        have cS : Calls Tryz.prog 39 #[.slice (some ⟨gn, 0, none⟩) ss.length capn] wr fun e w' => e = .returned (.tuple #[]) ∧ ∃ n os, w' = grow (putRow encStr (Sort.ahead wr n) gn 0 (ss.mergeSort fun x y => decide (x ≤ y)).toArray) os := Any.slices_Sort_string Tryz.more190 gn 0 capn ss wr hH hgl (by rw [hlen]; omega)
        rw [hlen, hms] at cS
        rw [hms] at HL HFIN
        have HC1 : Hid (∀ nn os, Calls Tryz.prog 40 #[.slice (some ⟨gn, 0, none⟩) ms.length capn] (grow (putRow encStr (Sort.ahead wr nn) gn 0 ms.toArray) os) fun e w' => e = .returned (.slice (some ⟨gn, 0, none⟩) (Lib.compact ms).length capn) ∧ ∃ q, w' = putRow encStr (Sort.ahead (grow (putRow encStr (Sort.ahead wr nn) gn 0 ms.toArray) os) q) gn 0 (Lib.compact ms ++ List.replicate (ms.length - (Lib.compact ms).length) []).toArray) := Lib.hid fun nn os =>
          Any.slices_Compact_string Tryz.more194 gn 0 capn ms _ (holds_grow encStr _ os gn 0 _ (by simpa [putRow, mapBlock, Sort.ahead] using hgl) (holds_putRow encStr _ gn 0 _ _ (holds_ahead encStr wr nn gn 0 _ hH) (by simp [hml, hlen]))) (by rw [hml]; omega) (by rw [hml]; omega)
        rw [hml] at HC1
        clear hW HW hr5 hall HA HMEM HLN hH hown hnn HNIL hN0 hss hms
        generalize N.length = nl at *
        go_wp2_with fail
        refine cS.mono ?_
        rintro e w2 ⟨rfl, nn, os, rfl⟩
        have cC := HC1.out nn os
        have HL2 := Lib.hid (fun q => HL.out nn os q)
        clear HC1 HL cS
        generalize grow (putRow encStr (Sort.ahead wr nn) gn 0 ms.toArray) os = wg at *
        go_wp2_with fail
        refine cC.mono ?_
        rintro e w3 ⟨rfl, q, rfl⟩
        obtain ⟨ho, hb⟩ := HL2.out q
        have HEND := Lib.hid (HFIN.out _ _ hb ho)
        clear HL2 HFIN ho hb cC
        go_wp2_with fail
        exact bodyPost_ret (v := .slice (some ⟨gn, 0, none⟩) _ capn) (by simp [results, Tryz.results13, go_sem]) rfl HEND.out
    · have hp := hW.ok p (by simp)
      have hall := open_le hW.ok
      obtain ⟨x, g, o, c⟩ := p
      have hsn := openN_snoc L' ⟨x, g, o, c⟩
      dsimp only at hsn
      have hown := hW.own
      rw [show (L' ++ [(⟨x, g, o, c⟩ : OpL)]).length = L'.length + 1 by simp] at *
      have hW5 := hW
      obtain ⟨m, hm⟩ : ∃ m, L'.length = m := ⟨_, rfl⟩
      obtain ⟨g5, rfl, hl5, hc⟩ := hr5 (by omega)
      have k0 := hc m (.slice (some ⟨g, o, none⟩) x.length c) (by rw [List.map_append, List.getElem?_append_right (by rw [List.length_map]; omega), List.length_map, hm, Nat.sub_self]; rfl)
      have HP := Lib.hid hW5.pop
      have HC1 := Lib.hid HC.out.pop
      rw [hm] at HP hc5 hall ⊢
      have HOK := Lib.hid hp
      have hmb : m + 1 ≤ 1000000 := by have := HBN.out; have := HNA.out; omega
      have hN0 : openN L' + nodesL (x.drop 0) + 0 ≤ G := by rw [List.drop_zero]; omega
      have HB0 : Hid (N.length + openN L' + nodesL (x.drop 0) ≤ nodes a) := Lib.hid (by rw [List.drop_zero]; have := HBN.out; omega)
      have HS0 : Hid (∀ j, j < 0 → SeenP w1 K N g o j) := Lib.hid fun j hj => absurd hj (by omega)
      have HPOS : Hid (0 < G) := Lib.hid (by have := nodes_len1 x; have := hp.pos; dsimp only at this; omega)
      have hxc : x.length ≤ c := hp.cap
      have hxb : x.length ≤ 4611686018427387904 := hp.big
      clear hW HW HC hp hall hc hr5 hown hW5
      go_wp2_with fail
      go_loopg [3, 5, 32] (x.length) (fun n s3 s5 s32 wx => ∃ (i : Nat) (L : List OpL) (K : List PKey) (N : List ByteArray), i + n = x.length ∧ s32 = .int .i64 (i : Int) ∧ openN L + nodesL (x.drop i) + i ≤ G ∧ Hid (N.length + openN L + nodesL (x.drop i) ≤ nodes a) ∧ Hid (NSt w1 M 22 9 (pnE a) wx s5 s3 L K N) ∧ Hid (N = [] → s3 = .slice none 0 0) ∧ Hid (CoverP w1 (R0, 0, 1) K N L (fun y => y = OpL.key ⟨x, g, o, c⟩)) ∧ Hid (∀ j, j < i → SeenP w1 K N g o j))
      case atStart => exact ⟨0, L', K, N, by omega, rfl, hN0, HB0, HP, HNIL, HC1, HS0⟩
      case round =>
        clear hN0 HB0 HP HNIL HC1 HS0 HBN hN hsn k0 hc5 hm5
        obtain ⟨i, L, K, N, hin, rfl, hst, HBN, HK, HNIL, HC, HSN⟩ := hrel
        have HIN := Lib.hid hin
        have HST := Lib.hid hst
        have HAW := Lib.hid HK.out.away
        by_cases hix : i < x.length
        · have hiz : (i : Int) < (x.length : Int) := by omega
          have hxi : x[i]? = some x[i] := List.getElem?_eq_getElem hix
          generalize x[i] = ex at *
          obtain ⟨gl, ka, la, x0, x1, x2, x3, hcb, hbb, hka, hsee⟩ := HOK.out.at HK.out.away hxi
          have HSEE := Lib.hid hsee
          have hdr := drop_at1 hxi
          have HDR : Hid (nodesL (x.drop i) = nodes ex + nodesL (x.drop (i + 1)) ∧ nodes ex = nodesL ex.kids + 1) := Lib.hid ⟨by rw [hdr, nodesL], nodes_kids ex⟩
          have HSUB : Hid (∀ s ∈ pnE ex, s ∈ pnE a) := Lib.hid fun s hs => HOK.out.sub s (pnL_mem.2 ⟨i, ex, hxi, hs⟩)
          have HSUB4 : Hid (ex.op = 4 → (⟨ex.str.toArray⟩ : ByteArray) ∈ pnE a) := Lib.hid fun h4 => HSUB.out _ (by rw [pnE_eq, if_pos h4]; simp)
          clear HSUB hsee hdr hst hin hxi
          generalize ex.op = p1 at *
          generalize ex.num = n1 at *
          generalize (⟨ex.str.toArray⟩ : ByteArray) = sx at *
          have hb3 := below_alloc wr (.cells #[.int .i64 p1, .int .i64 n1, .string sx, .slice ka ex.kids.length la] 24)
          have F3 := four_new wr (.int .i64 p1) (.int .i64 n1) (.string sx) (.slice ka ex.kids.length la) 24
          obtain ⟨w3, hw3⟩ : ∃ w3, wr.alloc (.cells #[.int .i64 p1, .int .i64 n1, .string sx, .slice ka ex.kids.length la] 24) = w3 := ⟨_, rfl⟩
          rw [hw3] at hb3 F3
          have HZ0 := Lib.hid (HK.out.next hb3)
          have HWR : Hid (∀ k, u3.ownBlock = some k → k < wr.heap.size) := Lib.hid fun k hk => (own_blk HK.out.nam k hk).2
          have HF := Lib.hid F3
          clear HK
          by_cases h4 : p1 = 4
          · subst h4
            have HSE : Hid (sx ∈ pnE a) := Lib.hid (HSUB4.out rfl)
            have hba4 := below_alloc w3 (.cells #[.string sx] 9)
            have HSA := Lib.hid (HZ0.out.next hba4)
            have HF4 := Lib.hid (HF.out.later hba4)
            have HO := Lib.hid HSA.out.nam
            have hnb : N.length ≤ 1000000 := by have := HBN.out; have := HNA.out; omega
            have hs1 : w1.heap.size ≤ w3.heap.size := HZ0.out.away.size
            have HM2 : Hid (M < w1.heap.size) := Lib.hid HM1.out.lt
            have HSX : Hid (sx ∈ N ++ [sx]) := Lib.hid (by simp)
            have HS2 : Hid (∀ j, j < i → SeenP w1 K (N ++ [sx]) g o j) := Lib.hid fun j hj => (HSN.out j hj).mono (fun _ h => h) (fun _ h => List.mem_append_left _ h)
            have HC2 : Hid (CoverP w1 (R0, 0, 1) K (N ++ [sx]) L (fun y => y = OpL.key ⟨x, g, o, c⟩)) := Lib.hid (HC.out.same fun _ h => List.mem_append_left _ h)
            have HBN2 : Hid ((N ++ [sx]).length + openN L + nodesL ex.kids + nodesL (x.drop (i + 1)) ≤ nodes a) := Lib.hid (by rw [List.length_append, List.length_singleton]; have := HBN.out; have := HDR.out; omega)
            obtain ⟨-, r0, r1, r2, r3, -⟩ := F3
            have hrl := HF.out.lt
            clear HSUB4 hba4 hb3 HZ0
            go_wp2_with (at_builtin; refine wpList_append_own_at _ rfl _ _ 30 rfl w1.heap.size 9 i9 _ 1 16 Tryz.underlying30 hi9 hk0 hk1 hk2 rfl (by decide) _ _ _ rfl HO.out ⟨w3.heap.size, 0, none⟩ 1 1 [.string sx] rfl rfl (one_news1 _ _ _) (str_cell1 _) ?c3 ?c4 ?c5 ?_)
            case c3 => unfold maxLen; omega
            case c4 => omega
            case c5 => first | omega | (rw [alloc_size]; omega)
            intro vn wn hownn hgrown hniln hatn
            have HZ : Hid (NSt w1 M 22 9 (pnE a) wn u5 vn L K (N ++ [sx])) := Lib.hid (HSA.out.name HM2.out (by decide) hownn hgrown HSE.out)
            have HF : Hid (Four wn wr.heap.size (.int .i64 4) (.int .i64 n1) (.string sx) (.slice ka ex.kids.length la)) := Lib.hid (four_block HF4.out hgrown.size (hgrown.block _ HF4.out.lt fun e => by have := HWR.out _ e.symm; omega))
            have HNIL2 : Hid (N ++ [sx] = [] → vn = .slice none 0 0) := Lib.hid fun h => by simp at h
            have H4 : Hid ((4 : Int) = 4 → sx ∈ N ++ [sx]) := Lib.hid fun _ => HSX.out
            have HAW2 := Lib.hid HZ.out.away
            clear hownn hgrown hniln hatn r0 r1 r2 r3 hrl HSA HO HF4 HSX HSE HNIL HSN HC HBN x0 x1 x2 x3 hnb hs1
            generalize N ++ [sx] = N2 at *
            obtain ⟨-, r0, r1, r2, r3, -⟩ := HF.out
            have hrl := HF.out.lt
            by_cases hl0 : ex.kids.length = 0
            · have hlzb : ((ex.kids.length : Int) == 0) = true := by rw [hl0]; rfl
              have HS3 : Hid (∀ j, j < i + 1 → SeenP w1 K N2 g o j) := Lib.hid (seen_to HS2.out (HSEE.out _ _ (by first | exact H4.out | exact fun _ => H4.out rfl) fun h => absurd h (by omega)))
              have hst3 : openN L + nodesL (x.drop (i + 1)) + (i + 1) ≤ G := by have := HST.out; have := HDR.out; omega
              have HBN3 : Hid (N2.length + openN L + nodesL (x.drop (i + 1)) ≤ nodes a) := Lib.hid (by have := HBN2.out; omega)
              clear hl0 hka hcb hbb
              generalize ex.kids.length = l1 at *
              go_wp2_with fail
              go_roundg (x.length - (i + 1))
              case measure => have := HIN.out; omega
              case rel => exact ⟨i + 1, L, K, N2, by have := HIN.out; omega, by go_num, hst3, HBN3, HZ, HNIL2, HC2, HS3⟩
            · have hl1 : 0 < ex.kids.length := by omega
              obtain ⟨ga, oa, rfl, hq⟩ := hka hl1
              have hlz : ¬ (ex.kids.length : Int) = 0 := by omega
              have hlzb : ((ex.kids.length : Int) == 0) = false := beq_eq_false_iff_ne.2 hlz
              have HQ := Lib.hid hq
              have HNB := Lib.hid hq.nb
              have hM2 : M < w1.heap.size := HM1.out.lt
              have hgM : ga ≠ M := hq.sp.2
              have hstk := open_le HZ.out.ok
              have HKEY : Hid (OpL.key ⟨ex.kids, ga, oa, la⟩ = (ga, oa, ex.kids.length)) := Lib.hid rfl
              have HCELL : Hid (OpL.cell ⟨ex.kids, ga, oa, la⟩ = .slice (some ⟨ga, oa, none⟩) ex.kids.length la) := Lib.hid rfl
              have hst3 : openN L + nodesL (x.drop (i + 1)) + (i + 1) ≤ G := by have := HST.out; have := HDR.out; omega
              have hst4 : openN L + nodesL ex.kids + nodesL (x.drop (i + 1)) + (i + 1) ≤ G := by have := HST.out; have := HDR.out; omega
              have HBN3 : Hid (N2.length + openN L + nodesL (x.drop (i + 1)) ≤ nodes a) := Lib.hid (by have := HBN2.out; omega)
              have HBN4 : Hid (N2.length + (openN L + nodesL ex.kids) + nodesL (x.drop (i + 1)) ≤ nodes a) := Lib.hid (by have := HBN2.out; omega)
              have hlb : L.length ≤ 1000000 := by have := HBN2.out; have := HNA.out; omega
              have cP := placeof_any ga oa ex.kids.length la wn hl1 hbb
              clear hl0 hka hq
              generalize hl1e : ex.kids.length = l1 at *
              go_wp2_with fail
              refine cP.mono ?_
              rintro e wp ⟨rfl, bp⟩
              have hbk := below_alloc wp (.cells #[.pointer (some ⟨ga, oa, none⟩), .int .i64 (l1 : Int)] 63)
              have k0 : (wp.alloc (.cells #[.pointer (some ⟨ga, oa, none⟩), .int .i64 (l1 : Int)] 63)).cell? ⟨wp.heap.size, 0, none⟩ = some (.pointer (some ⟨ga, oa, none⟩)) := by rw [cells_of_alloc]; rfl
              have k1 : (wp.alloc (.cells #[.pointer (some ⟨ga, oa, none⟩), .int .i64 (l1 : Int)] 63)).cell? ⟨wp.heap.size, 1, none⟩ = some (.int .i64 (l1 : Int)) := by rw [cells_of_alloc]; rfl
              have hkl : wp.heap.size < (wp.alloc (.cells #[.pointer (some ⟨ga, oa, none⟩), .int .i64 (l1 : Int)] 63)).heap.size := by rw [alloc_size]; omega
              obtain ⟨wk, hwk⟩ : ∃ wk, wp.alloc (.cells #[.pointer (some ⟨ga, oa, none⟩), .int .i64 (l1 : Int)] 63) = wk := ⟨_, rfl⟩
              rw [hwk] at hbk k0 k1 hkl
              have hzk := below_to bp hbk
              have HSK := Lib.hid (HZ.out.next hzk)
              have hlk := lookup1 (p := (ga, oa, l1)) (HSK.out.nb hgM HNB.out) HSK.out.map (HSK.out.keys HM1.out)
              dsimp only [kv1] at hlk
              have hbe := below_alloc wk (.cells #[] 65)
              have HFK := Lib.hid (HF.out.later hzk)
              clear cP bp r0 r1 r2 r3 hrl
              by_cases hmem : (ga, oa, l1) ∈ K
              · rw [decide_eq_true hmem] at hlk
                have HS3 : Hid (∀ j, j < i + 1 → SeenP w1 K N2 g o j) := Lib.hid (seen_to HS2.out (HSEE.out _ _ (by first | exact H4.out | exact fun _ => H4.out rfl) fun _ => ⟨ga, oa, rfl, hmem⟩))
                have HSE := Lib.hid (HSK.out.next hbe)
                clear hmem hbe hzk hl1e
                go_wp2_with fail
                go_roundg (x.length - (i + 1))
                case measure => have := HIN.out; omega
                case rel => exact ⟨i + 1, L, K, N2, by have := HIN.out; omega, by go_num, hst3, HBN3, HSE, HNIL2, HC2, HS3⟩
              · rw [decide_eq_false hmem] at hlk
                have HSE := Lib.hid (HSK.out.next hbe)
                have HFE := Lib.hid (HFK.out.later hbe)
                obtain ⟨wu, hput, haw, hmu⟩ := put1 (p := (ga, oa, l1)) (HSE.out.nb hgM HNB.out) HSE.out.map (HSE.out.keys HM1.out) hmem
                dsimp only [kv1] at hput
                have HSU := Lib.hid (HSE.out.put hM2 haw hmu HNB.out)
                have hMw : M < wr.heap.size := Nat.lt_of_lt_of_le hM2 HAW.out.size
                have HFU := Lib.hid (HFE.out.away haw (by omega))
                obtain ⟨hul, -, -, -, t3, -⟩ := HFU.out
                have hba := below_alloc wu (.cells #[.slice (some ⟨ga, oa, none⟩) l1 la] 22)
                have HSA := Lib.hid (HSU.out.next hba)
                have HO := Lib.hid HSA.out.own
                have HS3 : Hid (∀ j, j < i + 1 → SeenP w1 (K ++ [(ga, oa, l1)]) N2 g o j) := Lib.hid (seen_to (fun j hj => (HS2.out j hj).mono (fun _ h => List.mem_append_left _ h) (fun _ h => h)) (HSEE.out _ _ (by first | exact H4.out | exact fun _ => H4.out rfl) fun _ => ⟨ga, oa, rfl, by simp⟩))
                have q0 := (hbe.cell (p := ⟨wp.heap.size, 0, none⟩) hkl).trans k0
                have q1 := (hbe.cell (p := ⟨wp.heap.size, 1, none⟩) hkl).trans k1
                have hke : wp.heap.size < (wk.alloc (.cells #[] 65)).heap.size := Nat.lt_of_lt_of_le hkl hbe.size
                have hsu : w1.heap.size ≤ wu.heap.size := HSU.out.away.size
                have HNBG := Lib.hid HNB.out
                clear hmem hbe hzk haw hmu hba hMw
                go_wp2_with (at_builtin; refine wpList_append_own_at _ rfl _ _ 60 rfl w1.heap.size 22 i0 _ 1 24 Tryz.underlying60 hi hj0 hj1 hj2 rfl (by decide) _ _ _ rfl HO.out ⟨wu.heap.size, 0, none⟩ 1 1 [.slice (some ⟨ga, oa, none⟩) l1 la] rfl rfl (one_news1 _ _ _) (slc_cell _ _ _) ?e3 ?e4 ?e5 ?_)
                case e3 => unfold maxLen; omega
                case e4 => omega
                case e5 => first | omega | (rw [alloc_size]; omega)
                intro v' w6 hown' hgrow hnil hat
                have HS6 : Hid (NSt w1 M 22 9 (pnE a) w6 v' vn (L ++ [⟨ex.kids, ga, oa, la⟩]) (K ++ [(ga, oa, l1)]) N2) := Lib.hid (HSA.out.push hM2 (by decide) (by rw [HCELL.out]; exact hown') hgrow HQ.out)
                have hst5 : openN (L ++ [⟨ex.kids, ga, oa, la⟩]) + nodesL (x.drop (i + 1)) + (i + 1) ≤ G := by rw [openN_snoc]; exact hst4
                have HBN5 : Hid (N2.length + openN (L ++ [⟨ex.kids, ga, oa, la⟩]) + nodesL (x.drop (i + 1)) ≤ nodes a) := Lib.hid (by rw [openN_snoc]; exact HBN4.out)
                have HC6 : Hid (CoverP w1 (R0, 0, 1) (K ++ [(ga, oa, l1)]) N2 (L ++ [⟨ex.kids, ga, oa, la⟩]) (fun y => y = OpL.key ⟨x, g, o, c⟩)) := Lib.hid (by have h := HC2.out.push ⟨ex.kids, ga, oa, la⟩; rw [HKEY.out] at h; exact h)
                clear hown' hgrow hnil hat HSA HO
                go_wp2_with fail
                go_roundg (x.length - (i + 1))
                case measure => have := HIN.out; omega
                case rel => exact ⟨i + 1, _, _, N2, by have := HIN.out; omega, by go_num, hst5, HBN5, HS6, HNIL2, HC6, HS3⟩
          · have h4b : (p1 == 4) = false := by simpa using h4
            have H4 : Hid (p1 = 4 → sx ∈ N) := Lib.hid fun h => absurd h h4
            have HBN2 : Hid (N.length + openN L + nodesL ex.kids + nodesL (x.drop (i + 1)) ≤ nodes a) := Lib.hid (by have := HBN.out; have := HDR.out; omega)
            have HZ := HZ0
            have HNIL2 := HNIL
            have HC2 := HC
            have HS2 := HSN
            clear HSUB4 hb3 HZ0 HNIL HSN HC HBN h4 F3
            obtain ⟨-, r0, r1, r2, r3, -⟩ := HF.out
            have hrl := HF.out.lt
            by_cases hl0 : ex.kids.length = 0
            · have hlzb : ((ex.kids.length : Int) == 0) = true := by rw [hl0]; rfl
              have HS3 : Hid (∀ j, j < i + 1 → SeenP w1 K N g o j) := Lib.hid (seen_to HS2.out (HSEE.out _ _ (by first | exact H4.out | exact fun _ => H4.out rfl) fun h => absurd h (by omega)))
              have hst3 : openN L + nodesL (x.drop (i + 1)) + (i + 1) ≤ G := by have := HST.out; have := HDR.out; omega
              have HBN3 : Hid (N.length + openN L + nodesL (x.drop (i + 1)) ≤ nodes a) := Lib.hid (by have := HBN2.out; omega)
              clear hl0 hka hcb hbb
              generalize ex.kids.length = l1 at *
              go_wp2_with fail
              go_roundg (x.length - (i + 1))
              case measure => have := HIN.out; omega
              case rel => exact ⟨i + 1, L, K, N, by have := HIN.out; omega, by go_num, hst3, HBN3, HZ, HNIL2, HC2, HS3⟩
            · have hl1 : 0 < ex.kids.length := by omega
              obtain ⟨ga, oa, rfl, hq⟩ := hka hl1
              have hlz : ¬ (ex.kids.length : Int) = 0 := by omega
              have hlzb : ((ex.kids.length : Int) == 0) = false := beq_eq_false_iff_ne.2 hlz
              have HQ := Lib.hid hq
              have HNB := Lib.hid hq.nb
              have hM2 : M < w1.heap.size := HM1.out.lt
              have hgM : ga ≠ M := hq.sp.2
              have hstk := open_le HZ.out.ok
              have HKEY : Hid (OpL.key ⟨ex.kids, ga, oa, la⟩ = (ga, oa, ex.kids.length)) := Lib.hid rfl
              have HCELL : Hid (OpL.cell ⟨ex.kids, ga, oa, la⟩ = .slice (some ⟨ga, oa, none⟩) ex.kids.length la) := Lib.hid rfl
              have hst3 : openN L + nodesL (x.drop (i + 1)) + (i + 1) ≤ G := by have := HST.out; have := HDR.out; omega
              have hst4 : openN L + nodesL ex.kids + nodesL (x.drop (i + 1)) + (i + 1) ≤ G := by have := HST.out; have := HDR.out; omega
              have HBN3 : Hid (N.length + openN L + nodesL (x.drop (i + 1)) ≤ nodes a) := Lib.hid (by have := HBN2.out; omega)
              have HBN4 : Hid (N.length + (openN L + nodesL ex.kids) + nodesL (x.drop (i + 1)) ≤ nodes a) := Lib.hid (by have := HBN2.out; omega)
              have hlb : L.length ≤ 1000000 := by have := HBN2.out; have := HNA.out; omega
              have cP := placeof_any ga oa ex.kids.length la w3 hl1 hbb
              clear hl0 hka hq
              generalize hl1e : ex.kids.length = l1 at *
              go_wp2_with fail
              refine cP.mono ?_
              rintro e wp ⟨rfl, bp⟩
              have hbk := below_alloc wp (.cells #[.pointer (some ⟨ga, oa, none⟩), .int .i64 (l1 : Int)] 63)
              have k0 : (wp.alloc (.cells #[.pointer (some ⟨ga, oa, none⟩), .int .i64 (l1 : Int)] 63)).cell? ⟨wp.heap.size, 0, none⟩ = some (.pointer (some ⟨ga, oa, none⟩)) := by rw [cells_of_alloc]; rfl
              have k1 : (wp.alloc (.cells #[.pointer (some ⟨ga, oa, none⟩), .int .i64 (l1 : Int)] 63)).cell? ⟨wp.heap.size, 1, none⟩ = some (.int .i64 (l1 : Int)) := by rw [cells_of_alloc]; rfl
              have hkl : wp.heap.size < (wp.alloc (.cells #[.pointer (some ⟨ga, oa, none⟩), .int .i64 (l1 : Int)] 63)).heap.size := by rw [alloc_size]; omega
              obtain ⟨wk, hwk⟩ : ∃ wk, wp.alloc (.cells #[.pointer (some ⟨ga, oa, none⟩), .int .i64 (l1 : Int)] 63) = wk := ⟨_, rfl⟩
              rw [hwk] at hbk k0 k1 hkl
              have hzk := below_to bp hbk
              have HSK := Lib.hid (HZ.out.next hzk)
              have hlk := lookup1 (p := (ga, oa, l1)) (HSK.out.nb hgM HNB.out) HSK.out.map (HSK.out.keys HM1.out)
              dsimp only [kv1] at hlk
              have hbe := below_alloc wk (.cells #[] 65)
              have HFK := Lib.hid (HF.out.later hzk)
              clear cP bp r0 r1 r2 r3 hrl
              by_cases hmem : (ga, oa, l1) ∈ K
              · rw [decide_eq_true hmem] at hlk
                have HS3 : Hid (∀ j, j < i + 1 → SeenP w1 K N g o j) := Lib.hid (seen_to HS2.out (HSEE.out _ _ (by first | exact H4.out | exact fun _ => H4.out rfl) fun _ => ⟨ga, oa, rfl, hmem⟩))
                have HSE := Lib.hid (HSK.out.next hbe)
                clear hmem hbe hzk hl1e
                go_wp2_with fail
                go_roundg (x.length - (i + 1))
                case measure => have := HIN.out; omega
                case rel => exact ⟨i + 1, L, K, N, by have := HIN.out; omega, by go_num, hst3, HBN3, HSE, HNIL2, HC2, HS3⟩
              · rw [decide_eq_false hmem] at hlk
                have HSE := Lib.hid (HSK.out.next hbe)
                have HFE := Lib.hid (HFK.out.later hbe)
                obtain ⟨wu, hput, haw, hmu⟩ := put1 (p := (ga, oa, l1)) (HSE.out.nb hgM HNB.out) HSE.out.map (HSE.out.keys HM1.out) hmem
                dsimp only [kv1] at hput
                have HSU := Lib.hid (HSE.out.put hM2 haw hmu HNB.out)
                have hMw : M < wr.heap.size := Nat.lt_of_lt_of_le hM2 HAW.out.size
                have HFU := Lib.hid (HFE.out.away haw (by omega))
                obtain ⟨hul, -, -, -, t3, -⟩ := HFU.out
                have hba := below_alloc wu (.cells #[.slice (some ⟨ga, oa, none⟩) l1 la] 22)
                have HSA := Lib.hid (HSU.out.next hba)
                have HO := Lib.hid HSA.out.own
                have HS3 : Hid (∀ j, j < i + 1 → SeenP w1 (K ++ [(ga, oa, l1)]) N g o j) := Lib.hid (seen_to (fun j hj => (HS2.out j hj).mono (fun _ h => List.mem_append_left _ h) (fun _ h => h)) (HSEE.out _ _ (by first | exact H4.out | exact fun _ => H4.out rfl) fun _ => ⟨ga, oa, rfl, by simp⟩))
                have q0 := (hbe.cell (p := ⟨wp.heap.size, 0, none⟩) hkl).trans k0
                have q1 := (hbe.cell (p := ⟨wp.heap.size, 1, none⟩) hkl).trans k1
                have hke : wp.heap.size < (wk.alloc (.cells #[] 65)).heap.size := Nat.lt_of_lt_of_le hkl hbe.size
                have hsu : w1.heap.size ≤ wu.heap.size := HSU.out.away.size
                have HNBG := Lib.hid HNB.out
                clear hmem hbe hzk haw hmu hba hMw
                go_wp2_with (at_builtin; refine wpList_append_own_at _ rfl _ _ 60 rfl w1.heap.size 22 i0 _ 1 24 Tryz.underlying60 hi hj0 hj1 hj2 rfl (by decide) _ _ _ rfl HO.out ⟨wu.heap.size, 0, none⟩ 1 1 [.slice (some ⟨ga, oa, none⟩) l1 la] rfl rfl (one_news1 _ _ _) (slc_cell _ _ _) ?e3 ?e4 ?e5 ?_)
                case e3 => unfold maxLen; omega
                case e4 => omega
                case e5 => first | omega | (rw [alloc_size]; omega)
                intro v' w6 hown' hgrow hnil hat
                have HS6 : Hid (NSt w1 M 22 9 (pnE a) w6 v' u3 (L ++ [⟨ex.kids, ga, oa, la⟩]) (K ++ [(ga, oa, l1)]) N) := Lib.hid (HSA.out.push hM2 (by decide) (by rw [HCELL.out]; exact hown') hgrow HQ.out)
                have hst5 : openN (L ++ [⟨ex.kids, ga, oa, la⟩]) + nodesL (x.drop (i + 1)) + (i + 1) ≤ G := by rw [openN_snoc]; exact hst4
                have HBN5 : Hid (N.length + openN (L ++ [⟨ex.kids, ga, oa, la⟩]) + nodesL (x.drop (i + 1)) ≤ nodes a) := Lib.hid (by rw [openN_snoc]; exact HBN4.out)
                have HC6 : Hid (CoverP w1 (R0, 0, 1) (K ++ [(ga, oa, l1)]) N (L ++ [⟨ex.kids, ga, oa, la⟩]) (fun y => y = OpL.key ⟨x, g, o, c⟩)) := Lib.hid (by have h := HC2.out.push ⟨ex.kids, ga, oa, la⟩; rw [HKEY.out] at h; exact h)
                clear hown' hgrow hnil hat HSA HO
                go_wp2_with fail
                go_roundg (x.length - (i + 1))
                case measure => have := HIN.out; omega
                case rel => exact ⟨i + 1, _, _, N, by have := HIN.out; omega, by go_num, hst5, HBN5, HS6, HNIL2, HC6, HS3⟩
        · have hiz : ¬ (i : Int) < (x.length : Int) := by omega
          obtain rfl : i = x.length := by omega
          have HCC := Lib.hid (HC.out.close HSN.out)
          have hst2 : openN L ≤ G - 1 := by rw [List.drop_length] at hst; simp only [nodesL] at hst; have := HOK.out.pos; dsimp only at this; omega
          have HB2 : Hid (N.length + openN L ≤ nodes a) := Lib.hid (by have := HBN.out; rw [List.drop_length] at this; simpa [nodesL] using this)
          have hgk : G - 1 < G := by have := HPOS.out; omega
          clear hin HIN HST hst HC HSN HBN
          go_wp2_with fail
          go_roundg (G - 1)
          case measure => exact hgk
          case rel => exact ⟨L, K, N, hst2, HB2, HK, HNIL, HCC⟩
end Go.Proofs.YtbbblmedoagncaaGreatDoor
