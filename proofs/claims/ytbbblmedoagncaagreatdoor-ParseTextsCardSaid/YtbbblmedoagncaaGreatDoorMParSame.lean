/- parse.Same: an expression is the same as itself, wherever both lie in memory. -/
import Derived.Test.YtbbblmedoagncaaGreatDoorGS
import Derived.Test.YtbbblmedoagncaaGreatDoorGQ
import Derived.Deep.LoopGhost
import Derived.Deep.RegionWith
import Derived.Deep.CutRange
namespace Go.Proofs.YtbbblmedoagncaaGreatDoor
open Go.RowKit
set_option linter.unusedSimpArgs false

theorem own_slice2 {w : World} {B : Nat} {e : TypeId} {v : Value} {n : Nat} {xs : List Value} (h : w.ownsRow B e 2 v n xs) :
    ∃ ao cap, v = .slice ao n cap ∧ n ≤ cap ∧ cap ≤ maxLen ∧ (0 < n → ∃ g, ao = some ⟨g, 0, none⟩ ∧ B ≤ g ∧ g < w.heap.size ∧ ∀ j u, xs[j]? = some u → w.cell? ⟨g, j, none⟩ = some u) := by
  have h' := h
  rcases h.2 with ⟨rfl, hn⟩ | ⟨g, cap, cur, rfl, hbg, hg, hnc, hcm, rest⟩
  · exact ⟨none, 0, by rw [hn], by omega, by unfold maxLen; omega, fun hp => absurd hp (by omega)⟩
  · refine ⟨_, cap, rfl, hnc, hcm, fun _ => ⟨g, rfl, hbg, (Array.getElem?_eq_some_iff.1 hg).1, fun j u hu => ?_⟩⟩
    have := h'.cells (g := g) rfl j u hu
    have e : (⟨g, 0, none⟩ : Addr).add j = ⟨g, j, none⟩ := by unfold Addr.add; split <;> simp_all
    rwa [e] at this
/-- How many parts are still to be gone through. -/
def stackN (L : List PrL) : Nat := (L.map fun p => nodesL p.x).sum
theorem stackN_snoc (L : List PrL) (p : PrL) : stackN (L ++ [p]) = stackN L + nodesL p.x := by simp [stackN]
theorem nodes_len2 (es : List Ex) : es.length ≤ nodesL es := by
  induction es with
  | nil => simp [nodesL]
  | cons e es ih => rw [nodesL, List.length_cons]; have := nodes_pos e; omega
theorem stack_le {w : World} {M : Nat} {L : List PrL} (h : ∀ p ∈ L, p.ok w M) : L.length ≤ stackN L := by
  induction L with
  | nil => simp [stackN]
  | cons p L ih =>
    have h1 := (h p (.head _)).pos
    have h2 := nodes_len2 p.x
    have h3 := ih (fun q hq => h q (.tail _ hq))
    simp only [stackN, List.map_cons, List.sum_cons, List.length_cons] at h3 ⊢
    omega
/-- One expression alone in a row. -/
theorem row1_one {w : World} {M g : Nat} {e : Ex} {op n : Int} {s : ByteArray} {kv : Value} {ty : TypeId} (hg : w.heap[g]? = some (.cells #[.int .i64 op, .int .i64 n, .string s, kv] ty (0, 0))) (hM : g ≠ M) (he : ExIn w (fun b => b ≠ M) e (EV op n s kv)) : Row1 w M g 0 [e] := by
  refine ⟨(Array.getElem?_eq_some_iff.1 hg).1, hM, ?_⟩
  refine RowIn.one ⟨_, _, hg⟩ (cell_of_row w g 0 _ _ _ hg) (cell_of_row w g 1 _ _ _ hg) (cell_of_row w g 2 _ _ _ hg) (cell_of_row w g 3 _ _ _ hg) he .none
/-- What is compared at first. -/
theorem same_start (w : World) (a : Ex) (S T : Nat → Prop) (op n : Int) (s : ByteArray) (ka kb : Value) (ha : ExIn w S a (EV op n s ka)) (hb : ExIn w T a (EV op n s kb)) (w1 : World)
    (hw1 : ((((w.alloc (.cells #[.int .i64 op, .int .i64 n, .string s, ka] 24)).alloc (.cells #[.int .i64 op, .int .i64 n, .string s, kb] 24)).alloc (.map #[] 0)).alloc (.cells #[.int .i64 op, .int .i64 n, .string s, ka] 24)).alloc (.cells #[.int .i64 op, .int .i64 n, .string s, kb] 24) = w1) :
    Below w.heap.size w w1 ∧ w1.heap.size = w.heap.size + 5 ∧ w1.heap[w.heap.size + 1 + 1]? = some (.map #[] 0) ∧ PrL.ok w1 (w.heap.size + 1 + 1) ⟨[a], w.heap.size + 1 + 1 + 1, 0, 1, w.heap.size + 1 + 1 + 1 + 1, 0, 1⟩ := by
  subst hw1
  have b1 := below_alloc w (.cells #[.int .i64 op, .int .i64 n, .string s, ka] 24)
  have s1 := alloc_size w (.cells #[.int .i64 op, .int .i64 n, .string s, ka] 24)
  generalize w.alloc (.cells #[.int .i64 op, .int .i64 n, .string s, ka] 24) = wa at *
  have b2 := below_alloc wa (.cells #[.int .i64 op, .int .i64 n, .string s, kb] 24)
  have s2 := alloc_size wa (.cells #[.int .i64 op, .int .i64 n, .string s, kb] 24)
  generalize wa.alloc (.cells #[.int .i64 op, .int .i64 n, .string s, kb] 24) = wb at *
  have b3 := below_alloc wb (.map #[] 0)
  have s3 := alloc_size wb (.map #[] 0)
  have m3 := alloc_at wb (.map #[] 0)
  generalize wb.alloc (.map #[] 0) = wm at *
  have b4 := below_alloc wm (.cells #[.int .i64 op, .int .i64 n, .string s, ka] 24)
  have s4 := alloc_size wm (.cells #[.int .i64 op, .int .i64 n, .string s, ka] 24)
  have m4 := alloc_at wm (.cells #[.int .i64 op, .int .i64 n, .string s, ka] 24)
  generalize wm.alloc (.cells #[.int .i64 op, .int .i64 n, .string s, ka] 24) = wc at *
  have b5 := below_alloc wc (.cells #[.int .i64 op, .int .i64 n, .string s, kb] 24)
  have s5 := alloc_size wc (.cells #[.int .i64 op, .int .i64 n, .string s, kb] 24)
  have m5 := alloc_at wc (.cells #[.int .i64 op, .int .i64 n, .string s, kb] 24)
  generalize wc.alloc (.cells #[.int .i64 op, .int .i64 n, .string s, kb] 24) = wd at *
  have B := below_to (below_to (below_to (below_to b1 b2) b3) b4) b5
  have hMs : w.heap.size + 1 + 1 = wb.heap.size := by omega
  rw [hMs] at *
  refine ⟨B, by omega, ?_, ?_⟩
  · rw [b5.block _ (by omega), b4.block _ (by omega)]; exact m3
  · have hu : ∀ b, b < w.heap.size → b ≠ wb.heap.size := fun b h => by omega
    have hra : Row1 wd wb.heap.size (wb.heap.size + 1) 0 [a] := row1_one (op := op) (n := n) (s := s) (kv := ka) (ty := 24) (by rw [show wb.heap.size + 1 = wm.heap.size by omega, b5.block _ (by omega)]; exact m4) (by omega) ((ha.wide (R := fun b => b ≠ wb.heap.size) (fun b _ h => hu b h)).later B)
    have hrb : Row1 wd wb.heap.size (wb.heap.size + 1 + 1) 0 [a] := row1_one (op := op) (n := n) (s := s) (kv := kb) (ty := 24) (by rw [show wb.heap.size + 1 + 1 = wc.heap.size by omega]; exact m5) (by omega) ((hb.wide (R := fun b => b ≠ wb.heap.size) (fun b _ h => hu b h)).later B)
    exact ⟨hra, hrb, by simp, by simp, by simp, by simp⟩
theorem sw_start {w1 : World} {M : Nat} {p : PrL} (x y : Value) (T : TypeId) (hM : w1.heap[M]? = some (.map #[] 0)) (hp : p.ok w1 M) (hc : p.cells = [x, y]) : SW w1 M T (w1.alloc (.cells #[x, y] T)) (.slice (some ⟨w1.heap.size, 0, none⟩) 1 1) [p] := by
  refine ⟨(Away.refl M w1).alloc _, ?_, ⟨#[], 0, ?_, by simp, by simp⟩, fun q hq => ?_⟩
  · have : stackV [p] = [x, y] := by simp [stackV, hc]
    rw [this]; exact own_first w1 x y T
  · rw [(below_alloc w1 _).block M (Array.getElem?_eq_some_iff.1 hM).1]; exact hM
  · obtain rfl : q = p := by simpa using hq
    exact hp
/-- While the lists are compared, nothing of theirs is written. -/
theorem SW.next {w1 : World} {M : Nat} {T : TypeId} {wr w' : World} {v : Value} {L : List PrL} (h : SW w1 M T wr v L) (hb : Below wr.heap.size wr w') : SW w1 M T w' v L := by
  refine ⟨h.away.next hb, own_stay h.own (fun k hk => hb.block k (own_blk h.own k hk).2), ?_, h.ok⟩
  obtain ⟨es, clock, h1, h2⟩ := h.map
  exact ⟨es, clock, (hb.block M (Array.getElem?_eq_some_iff.1 h1).1).trans h1, h2⟩
/-- Within a pair of lists. -/
structure KI (w1 : World) (M : Nat) (T : TypeId) (p : PrL) (B8 : Nat) (wx : World) (v : Value) (L : List PrL) : Prop where
  sw : SW w1 M T wx v L
  lt : B8 < wx.heap.size
  ge : w1.heap.size ≤ B8
  k0 : wx.cell? ⟨B8, 0, none⟩ = some (.slice (some ⟨p.g1, p.o1, none⟩) p.x.length p.c1)
  k1 : wx.cell? ⟨B8, 1, none⟩ = some (.slice (some ⟨p.g2, p.o2, none⟩) p.x.length p.c2)
  off : v.ownBlock ≠ some B8
theorem KI.next {w1 : World} {M : Nat} {T : TypeId} {p : PrL} {B8 : Nat} {wx w' : World} {v : Value} {L : List PrL} (h : KI w1 M T p B8 wx v L) (hb : Below wx.heap.size wx w') : KI w1 M T p B8 w' v L :=
  ⟨h.sw.next hb, Nat.lt_of_lt_of_le h.lt hb.size, h.ge, (hb.cell (p := ⟨B8, 0, none⟩) h.lt).trans h.k0, (hb.cell (p := ⟨B8, 1, none⟩) h.lt).trans h.k1, h.off⟩
/-- One of a list, in the world at the start and later. -/
theorem Row1.at {w1 wx : World} {M g o : Nat} {es : List Ex} (h : Row1 w1 M g o es) (ha : Away M w1 wx) {i : Nat} {e : Ex} (hi : es[i]? = some e) :
    g < wx.heap.size ∧ ∃ ao cap, wx.cell? ⟨g, o + i * 4, none⟩ = some (.int .i64 e.op) ∧ wx.cell? ⟨g, o + i * 4 + 1, none⟩ = some (.int .i64 e.num) ∧ wx.cell? ⟨g, o + i * 4 + 2, none⟩ = some (.string ⟨e.str.toArray⟩) ∧ wx.cell? ⟨g, o + i * 4 + 3, none⟩ = some (.slice ao e.kids.length cap) ∧
      e.kids.length ≤ cap ∧ e.kids.length ≤ 4611686018427387904 ∧ (0 < e.kids.length → ∃ g' o', ao = some ⟨g', o', none⟩ ∧ Row1 w1 M g' o' e.kids ∧ NW w1 g' o') := by
  obtain ⟨h1, h2, h3⟩ := h
  obtain ⟨v0, v1, v2, v3, c0, c1, c2, c3, he⟩ := h3.at hi
  obtain ⟨ao, cap, hev, hcap, hbig, -, hk⟩ := he.get
  obtain ⟨rfl, rfl, rfl, rfl⟩ := agg4 hev
  refine ⟨Nat.lt_of_lt_of_le h1 ha.size, ao, cap, (ha.cell (p := ⟨g, _, none⟩) h1 h2).trans c0, (ha.cell (p := ⟨g, _, none⟩) h1 h2).trans c1, (ha.cell (p := ⟨g, _, none⟩) h1 h2).trans c2, (ha.cell (p := ⟨g, _, none⟩) h1 h2).trans c3, hcap, hbig, fun h0 => ?_⟩
  obtain ⟨g', o', e1, e2, e3, e4⟩ := hk h0
  refine ⟨g', o', e1, ⟨e3, e2, e4⟩, ?_⟩
  cases hks : e.kids with
  | nil => rw [hks] at h0; simp at h0
  | cons k ks => rw [hks] at e4; exact e4.nb
theorem four_dr {w : World} {b : Nat} {x0 x1 x2 x3 : Value} (h : Four w b x0 x1 x2 x3) : Four w.drew b x0 x1 x2 x3 := ⟨h.lt, h.c0, h.c1, h.c2, h.c3, h.f0, h.f1, h.f2, h.f3⟩
theorem SW.put {w1 : World} {M : Nat} {T : TypeId} {wr w' : World} {v : Value} {L : List PrL} (h : SW w1 M T wr v L) (hMl : M < w1.heap.size) (ha : Away M wr w')
    (hm : ∃ es clock, w'.heap[M]? = some (.map es clock) ∧ (∀ e ∈ es.toList, e.val = .agg #[]) ∧ ∀ e ∈ es.toList, KeyOk w1 e.key) : SW w1 M T w' v L :=
  ⟨h.away.trans ha, own_stay h.own (fun k hk => ha.block k (own_blk h.own k hk).2 (by have := (own_blk h.own k hk).1; omega)), hm, h.ok⟩
theorem SW.push {w1 : World} {M : Nat} {T : TypeId} {wr w' : World} {v v' : Value} {L : List PrL} {q : PrL} (h : SW w1 M T wr v L) (hMl : M < w1.heap.size) (ho : w'.ownsRow w1.heap.size T 2 v' (L.length + 1) (stackV L ++ q.cells)) (hg : wr.grownBy w' v.ownBlock) (hq : q.ok w1 M) : SW w1 M T w' v' (L ++ [q]) := by
  have hne : ∀ k, v.ownBlock = some k → w1.heap.size ≤ k := fun k hk => (own_blk h.own k hk).1
  have hb : ∀ k, k < w1.heap.size → w'.heap[k]? = wr.heap[k]? := fun k hk => hg.block k (Nat.lt_of_lt_of_le hk h.away.size) (fun e => by have := hne k e.symm; omega)
  refine ⟨⟨hg.os.trans h.away.os, hg.tape.trans h.away.tape, hg.output.trans h.away.output, Nat.le_trans h.away.size hg.size, fun k hk hn => (hb k hk).trans (h.away.block k hk hn)⟩, ?_, ?_, fun p hp => ?_⟩
  · rw [stackV_snoc, List.length_append]; exact ho
  · obtain ⟨es, clock, h1, h2⟩ := h.map
    exact ⟨es, clock, (hb M hMl).trans h1, h2⟩
  · rcases List.mem_append.1 hp with hp | hp
    · exact h.ok p hp
    · rw [List.mem_singleton.1 hp]; exact hq
theorem drop_head {α : Type} {l : List α} {i : Nat} {e : α} (h : l[i]? = some e) : l.drop i = e :: l.drop (i + 1) := by
  obtain ⟨h1, rfl⟩ := List.getElem?_eq_some_iff.1 h
  exact List.drop_eq_getElem_cons h1
theorem two_news (w : World) (x y : Value) (t : TypeId) : ∀ (j : Nat) (u : Value), [x, y][j]? = some u → (w.alloc (.cells #[x, y] t)).cell? ((⟨w.heap.size, 0, none⟩ : Addr).add j) = some u := by
  intro j u hj
  have e : (⟨w.heap.size, 0, none⟩ : Addr).add j = ⟨w.heap.size, j, none⟩ := by unfold Addr.add; split <;> simp_all
  rw [e, cells_of_alloc]
  simpa using hj
theorem two_slc (A B : Option Addr) (l m c d : Nat) : ∀ u ∈ [Value.slice A l c, Value.slice B m d], u.oneCell' = true := by
  intro u hu
  simp only [List.mem_cons, List.not_mem_nil, or_false] at hu
  rcases hu with rfl | rfl <;> rfl
set_option maxHeartbeats 8000000 in
set_option maxRecDepth 100000 in
theorem psame_any (a : Ex) (va vb : Value) (S T : Nat → Prop) (w : World) (ha : ExIn w S a va) (hb : ExIn w T a vb) (hn : nodes a ≤ 1000000) :
    Calls Tryz.prog 15 #[va, vb] w fun e w' => e = .returned (.bool true) ∧ Below w.heap.size w w' := by
  obtain ⟨ao, ac, rfl, a2, a3, ar, ak⟩ := ha.get
  obtain ⟨bo, bc, rfl, b2, b3, br, bk⟩ := hb.get
  have hS := fun w1 h => same_start w a S T _ _ _ _ _ ha hb w1 h
  generalize a.op = aop at *
  generalize a.num = an at *
  generalize (⟨a.str.toArray⟩ : ByteArray) = as_ at *
  generalize a.kids.length = al at *
  have hmk := make_map
  obtain ⟨w1, hw1⟩ : ∃ w1, ((((w.alloc (.cells #[.int .i64 aop, .int .i64 an, .string as_, .slice ao al ac] 24)).alloc (.cells #[.int .i64 aop, .int .i64 an, .string as_, .slice bo al bc] 24)).alloc (.map #[] 0)).alloc (.cells #[.int .i64 aop, .int .i64 an, .string as_, .slice ao al ac] 24)).alloc (.cells #[.int .i64 aop, .int .i64 an, .string as_, .slice bo al bc] 24) = w1 := ⟨_, rfl⟩
  obtain ⟨hB1, hz1, hM1, hP⟩ := hS w1 hw1
  have HMge : Hid (w.heap.size ≤ w.heap.size + 1 + 1) := Lib.hid (by omega)
  have HSW : Hid (SW w1 (w.heap.size + 1 + 1) 70 (w1.alloc (.cells #[.slice (some ⟨w.heap.size + 1 + 1 + 1, 0, none⟩) 1 1, .slice (some ⟨w.heap.size + 1 + 1 + 1 + 1, 0, none⟩) 1 1] 70)) (.slice (some ⟨w1.heap.size, 0, none⟩) 1 1) [⟨[a], w.heap.size + 1 + 1 + 1, 0, 1, w.heap.size + 1 + 1 + 1 + 1, 0, 1⟩]) := Lib.hid (sw_start _ _ _ hM1 hP rfl)
  obtain ⟨i0, hi, hj0, hj1, hj2⟩ := info_parts (show (Tryz.prog.info? 70).map (fun i => (i.zero, i.size, i.bytes)) = some (some (.agg #[.slice none 0 0, .slice none 0 0]), 2, 48) by kernel_rfl)
  have HB1 := Lib.hid hB1
  have HM1 := Lib.hid hM1
  have hst : stackN [⟨[a], w.heap.size + 1 + 1 + 1, 0, 1, w.heap.size + 1 + 1 + 1 + 1, 0, 1⟩] ≤ nodes a := by simp [stackN, nodesL]
  clear ha hb ak bk hP hS hB1 hz1 hM1
  go_enter Tryz.func15, Tryz.ntmps15
  go_wp2_with fail
  generalize w.heap.size + 1 + 1 = M at *
  go_loopg [6] (nodes a) (fun n s6 wr => ∃ (L : List PrL), stackN L ≤ n ∧ n ≤ 1000000 ∧ Hid (SW w1 M 70 wr s6 L))
  case atStart => exact ⟨_, hst, hn, HSW⟩
  case round =>
    obtain ⟨L, hN, hnn, HW⟩ := hrel
    clear hst HSW hw1 hmk
    obtain ⟨G, hG⟩ : ∃ G, G = gk := ⟨_, rfl⟩
    subst hG
    have hW := HW.out
    obtain ⟨ao6, cap6, rfl, hc6, hm6, hr6⟩ := own_slice2 hW.own
    rcases (show L = [] ∨ ∃ L' p, L = L' ++ [p] by rcases List.eq_nil_or_concat L with h | ⟨L', p, h⟩; exact .inl h; exact .inr ⟨L', p, by rw [h, List.concat_eq_append]⟩) with rfl | ⟨L', p, rfl⟩
    · have HA := Lib.hid (hW.away.below (B := w.heap.size) HMge.out HB1.out.size)
      rw [List.length_nil]
      clear hW HW hr6
      go_wp2_with fail
      go_ret
      exact ⟨rfl, HB1.out.trans HA.out⟩
    · have hp := hW.ok p (by simp)
      have hall := stack_le hW.ok
      have hok' : ∀ q ∈ L', q.ok w1 M := fun q hq => hW.ok q (by simp [hq])
      obtain ⟨x, g1, o1, c1, g2, o2, c2⟩ := p
      obtain ⟨hp1, hp2, hp3, hp5, hp6, hp7⟩ := hp
      dsimp only at hp1 hp2 hp3 hp5 hp6 hp7
      have hsn := stackN_snoc L' ⟨x, g1, o1, c1, g2, o2, c2⟩
      dsimp only at hsn
      have hsl := stackV_len L'
      have hown := hW.own
      rw [stackV_snoc] at hr6 hown
      rw [show (L' ++ [(⟨x, g1, o1, c1, g2, o2, c2⟩ : PrL)]).length = L'.length + 1 by simp] at *
      obtain ⟨m, hm⟩ : ∃ m, L'.length = m := ⟨_, rfl⟩
      rw [hm] at hsl hc6 hr6 hall hown ⊢
      have hmb : m + 1 ≤ 1000000 := by omega
      obtain ⟨g6, rfl, hg6, hl6, hc⟩ := hr6 (by omega)
      have k0 := hc (m * 2) (.slice (some ⟨g1, o1, none⟩) x.length c1) (by rw [List.getElem?_append_right (by omega), hsl, Nat.sub_self]; rfl)
      have k1 := hc (m * 2 + 1) (.slice (some ⟨g2, o2, none⟩) x.length c2) (by rw [List.getElem?_append_right (by omega), hsl, show m * 2 + 1 - m * 2 = 1 by omega]; rfl)
      clear hc hr6
      have hpo := own_pop hown (by rw [hsl])
      have hb8 := below_alloc wr (.cells #[.slice (some ⟨g1, o1, none⟩) x.length c1, .slice (some ⟨g2, o2, none⟩) x.length c2] 70)
      have h80 : (wr.alloc (.cells #[.slice (some ⟨g1, o1, none⟩) x.length c1, .slice (some ⟨g2, o2, none⟩) x.length c2] 70)).cell? ⟨wr.heap.size, 0, none⟩ = some (.slice (some ⟨g1, o1, none⟩) x.length c1) := by rw [cells_of_alloc]; rfl
      have h81 : (wr.alloc (.cells #[.slice (some ⟨g1, o1, none⟩) x.length c1, .slice (some ⟨g2, o2, none⟩) x.length c2] 70)).cell? ⟨wr.heap.size, 1, none⟩ = some (.slice (some ⟨g2, o2, none⟩) x.length c2) := by rw [cells_of_alloc]; rfl
      have hsw8 : SW w1 M 70 wr (.slice (some ⟨g6, 0, none⟩) m cap6) L' := ⟨hW.away, by rw [hm]; exact hpo, hW.map, hok'⟩
      have HKI : Hid (KI w1 M 70 ⟨x, g1, o1, c1, g2, o2, c2⟩ wr.heap.size (wr.alloc (.cells #[.slice (some ⟨g1, o1, none⟩) x.length c1, .slice (some ⟨g2, o2, none⟩) x.length c2] 70)) (.slice (some ⟨g6, 0, none⟩) m cap6) L') :=
        Lib.hid ⟨hsw8.next hb8, by rw [alloc_size]; omega, hW.away.size, h80, h81, by simp only [Value.ownBlock, ne_eq, Option.some.injEq]; omega⟩
      have hN0 : stackN L' + nodesL (x.drop 0) + 0 ≤ G := by rw [List.drop_zero]; omega
      clear hpo h80 h81 hsw8 hb8 hown hW HW hall hok'
      go_wp2_with fail
      generalize wr.heap.size = B8 at *
      go_loopg [6, 38] (x.length) (fun n s6 s38 wx => ∃ (i : Nat) (L : List PrL), i + n = x.length ∧ s38 = .int .i64 (i : Int) ∧ stackN L + nodesL (x.drop i) + i ≤ G ∧ Hid (KI w1 M 70 ⟨x, g1, o1, c1, g2, o2, c2⟩ B8 wx s6 L))
      case atStart => exact ⟨0, L', by omega, rfl, hN0, HKI⟩
      case round =>
        obtain ⟨i, L, hin, rfl, hst, HK⟩ := hrel
        clear HKI hN0 hN hsl hsn k0 k1 hc6 hm6
        have hK := HK.out
        have HIN := Lib.hid hin
        have HST := Lib.hid hst
        obtain ⟨e0, e1⟩ : (wr.cell? ⟨B8, 0, none⟩ = some (.slice (some ⟨g1, o1, none⟩) x.length c1)) ∧ (wr.cell? ⟨B8, 1, none⟩ = some (.slice (some ⟨g2, o2, none⟩) x.length c2)) := ⟨hK.k0, hK.k1⟩
        have hB8 := hK.lt
        by_cases hix : i < x.length
        · have hiz : (i : Int) < (x.length : Int) := by omega
          have hxi : x[i]? = some x[i] := List.getElem?_eq_getElem hix
          generalize x[i] = ex at *
          obtain ⟨gl1, ka, la, x0, x1, x2, x3, hca, hba, hka⟩ := hp1.at hK.sw.away hxi
          obtain ⟨gl2, kb, lb, y0, y1, y2, y3, hcb, hbb, hkb⟩ := hp2.at hK.sw.away hxi
          obtain ⟨w3, hw3⟩ : ∃ w3, (wr.alloc (.cells #[.int .i64 ex.op, .int .i64 ex.num, .string ⟨ex.str.toArray⟩, .slice ka ex.kids.length la] 24)).alloc (.cells #[.int .i64 ex.op, .int .i64 ex.num, .string ⟨ex.str.toArray⟩, .slice kb ex.kids.length lb] 24) = w3 := ⟨_, rfl⟩
          have hb3 : Below wr.heap.size wr w3 := by rw [← hw3]; exact below_to (below_alloc wr _) (below_alloc _ _)
          have F1 : Four w3 wr.heap.size (.int .i64 ex.op) (.int .i64 ex.num) (.string ⟨ex.str.toArray⟩) (.slice ka ex.kids.length la) := by
            rw [← hw3]; exact (four_new wr _ _ _ _ 24).later (below_alloc _ _)
          have F2 : Four w3 (wr.heap.size + 1) (.int .i64 ex.op) (.int .i64 ex.num) (.string ⟨ex.str.toArray⟩) (.slice kb ex.kids.length lb) := by
            rw [← hw3, ← alloc_size wr (.cells #[.int .i64 ex.op, .int .i64 ex.num, .string ⟨ex.str.toArray⟩, .slice ka ex.kids.length la] 24)]; exact four_new _ _ _ _ _ 24
          have HHF1 := Lib.hid F1
          have HHF2 := Lib.hid F2
          have HB3 := Lib.hid hb3
          obtain ⟨-, r0, r1, r2, r3, -⟩ := F1
          obtain ⟨-, s0, s1, s2, s3, -⟩ := F2
          have hdr := drop_head hxi
          have hst2 : stackN L + (nodes ex + nodesL (x.drop (i + 1))) + i ≤ G := by rw [hdr, nodesL] at hst; exact hst
          have hnk := nodes_kids ex
          have hqq : ((⟨ex.str.toArray⟩ : ByteArray).toList == (⟨ex.str.toArray⟩ : ByteArray).toList) = true := by simp
          by_cases hl0 : ex.kids.length = 0
          · have HKI2 := Lib.hid (hK.next hb3)
            have hst3 : stackN L + nodesL (x.drop (i + 1)) + (i + 1) ≤ G := by omega
            have hlzb : ((ex.kids.length : Int) == 0) = true := by rw [hl0]; rfl
            clear hl0 hK HK hka hkb hxi hst hst2 HST hnk HB3 hb3 hdr HHF1 HHF2 hcb hbb
            generalize ex.kids.length = l1 at *
            generalize ex.op = p1 at *
            generalize ex.num = n1 at *
            generalize (⟨ex.str.toArray⟩ : ByteArray) = sx at *
            go_wp2_with fail
            go_roundg (x.length - (i + 1))
            case measure => have := HIN.out; omega
            case rel => exact ⟨i + 1, L, by have := HIN.out; omega, by go_num, hst3, HKI2⟩
          · have hl1 : 0 < ex.kids.length := by omega
            obtain ⟨ga, oa, rfl, hra, hna⟩ := hka hl1
            obtain ⟨gb, ob, rfl, hrb, hnb⟩ := hkb hl1
            have hq : PrL.ok w1 M ⟨ex.kids, ga, oa, la, gb, ob, lb⟩ := ⟨hra, hrb, hl1, hca, hcb, hba⟩
            have hkey : KeyOk w1 (kv2 ⟨ga, oa, none⟩ (ex.kids.length : Int) ⟨gb, ob, none⟩ (ex.kids.length : Int)) := ⟨_, _, _, _, _, _, rfl, hna, hnb⟩
            have hlz : ¬ (ex.kids.length : Int) = 0 := by omega
            have hlzb : ((ex.kids.length : Int) == 0) = false := beq_eq_false_iff_ne.2 hlz
            have hM2 : M < w1.heap.size := (Array.getElem?_eq_some_iff.1 HM1.out).1
            have HKK := Lib.hid hK
            have HQ := Lib.hid hq
            have HKEY := Lib.hid hkey
            have HCQ : Hid (PrL.cells ⟨ex.kids, ga, oa, la, gb, ob, lb⟩ = [.slice (some ⟨ga, oa, none⟩) ex.kids.length la, .slice (some ⟨gb, ob, none⟩) ex.kids.length lb]) := Lib.hid rfl
            have hst3 : stackN L + nodesL (x.drop (i + 1)) + (i + 1) ≤ G := by omega
            have hst4 : stackN L + nodesL ex.kids + nodesL (x.drop (i + 1)) + (i + 1) ≤ G := by omega
            have hstk := stack_le hK.sw.ok
            clear hl0 hK HK hka hkb hst hst2 HST hnk hq hkey hdr hxi
            generalize hl1e : ex.kids.length = l1 at *
            generalize ex.op = p1 at *
            generalize ex.num = n1 at *
            generalize (⟨ex.str.toArray⟩ : ByteArray) = sx at *
            have hl31 := HHF1.out.lt
            have hl32 := HHF2.out.lt
            have cPa := fun w' (hb : Below w3.heap.size w3 w') => (placeof_any ga oa l1 la w' hl1 hba).mono fun e w'' h => (⟨h.1, h.2, below_to hb h.2⟩ : e = _ ∧ Below w'.heap.size w' w'' ∧ Below w3.heap.size w3 w'')
            have cPb := fun w' (hb : Below w3.heap.size w3 w') => (placeof_any gb ob l1 lb w' hl1 hba).mono fun e w'' h => (⟨h.1, h.2, below_to hb h.2⟩ : e = _ ∧ Below w'.heap.size w' w'' ∧ Below w3.heap.size w3 w'')
            go_wp2_with fail
            go_cut [12] from 80 to 86 (fun s12 wx => ∃ gg : Nat, s12 = .pointer (some ⟨gg, 0, none⟩) ∧ Hid (w3.heap.size ≤ gg) ∧ Hid (Below w3.heap.size w3 wx) ∧ Hid (Four wx gg (.pointer (some ⟨ga, oa, none⟩)) (.int .i64 (l1 : Int)) (.pointer (some ⟨gb, ob, none⟩)) (.int .i64 (l1 : Int))))
            case first =>
              go_region_with (go_at_call 38; (first | refine (cPa _ ?hb).mono ?_ | refine (cPb _ ?hb).mono ?_); (case hb => first | exact below_dr (Below.refl _ _) _ | exact below_drew (below_dr (Below.refl _ _) _) (Nat.le_refl _) _ | assumption | exact below_drew (by assumption) (Nat.le_refl _) _); rintro e wy ⟨rfl, hby, hBy⟩; have hL1 := (HHF1.out.later hBy).lt; have hL2 := (HHF2.out.later hBy).lt; have hX1 := (HHF1.out.later hBy).c3; have hX2 := (HHF2.out.later hBy).c3; (try ((first | have hFN0 := (four_new _ (.pointer none) (.int .i64 0) (.pointer none) (.int .i64 0) 72).later hby | have hFN0 := (four_dr (four_new _ (.pointer none) (.int .i64 0) (.pointer none) (.int .i64 0) 72)).later hby); (first | have hFN : Four wy w3.heap.size (.pointer none) (.int .i64 0) (.pointer none) (.int .i64 0) := hFN0 | have hFN := hFN0); have hFM := hFN; obtain ⟨zl, z0, z1, z2, z3, q0, q1, q2, q3⟩ := hFM)); (try (have hFO := (‹Four _ w3.heap.size (.pointer none) (.int .i64 0) (.pointer none) (.int .i64 0)›).later hby; have hFM := hFO; obtain ⟨zl, z0, z1, z2, z3, q0, q1, q2, q3⟩ := hFM)))
              all_goals
                go_wp2_with fail
                go_meet
                first
                  | exact ⟨wy.heap.size, rfl, Lib.hid hBy.size, Lib.hid (below_drew hBy (Nat.le_refl _) _), Lib.hid (four_new wy _ _ _ _ _)⟩
                  | exact ⟨w3.heap.size, rfl, Lib.hid (Nat.le_refl _), Lib.hid (below_put4 hBy (Nat.le_refl _) _ _ _ _), Lib.hid (set4_at hFO _ _ _ _)⟩
                  | exact ⟨w3.heap.size, rfl, Lib.hid (Nat.le_refl _), Lib.hid (below_put4 hBy (Nat.le_refl _) _ _ _ _), Lib.hid (set4_at hFN _ _ _ _)⟩
                  | exact ⟨_, rfl, Lib.hid (Below.size (B := w3.heap.size) (by assumption)), Lib.hid (below_put4 hBy (Below.size (B := w3.heap.size) (by assumption)) _ _ _ _), Lib.hid (set4_at hFN _ _ _ _)⟩
            case rest =>
              obtain ⟨gg, rfl, Hgg, HBc, HFc⟩ := hcut
              have hKc := HKK.out
              have hbc := below_to HB3.out HBc.out
              have hswc := hKc.sw.next hbc
              have hkc := HKEY.out.mono (fun g o hg => nw_away HM1.out hg hswc.away)
              have hmc := SW.mapAt HM1.out hswc
              obtain ⟨ok, nq, hlk⟩ := map_lookup hkc hmc
              obtain ⟨lc, z0, z1, z2, z3, -⟩ := HFc.out
              have HHFc1 := Lib.hid (HHF1.out.later HBc.out)
              have HHFc2 := Lib.hid (HHF2.out.later HBc.out)
              clear cPa cPb r0 r1 r2 r3 s0 s1 s2 s3 x0 x1 x2 x3 y0 y1 y2 y3 e0 e1 hw3 hl31 hl32
              have hbd := below_to hbc (below_to (below_dr (Below.refl _ wc) nq) (below_alloc (wc.drewN nq) (.cells #[] 65)))
              have hbe := below_to (below_dr (Below.refl _ wc) nq) (below_alloc (wc.drewN nq) (.cells #[] 65))
              cases ok with
              | true =>
                have HKI2 := Lib.hid (hKc.next hbd)
                clear hKc hbc hswc hkc hmc hbd hbe
                go_wp2_with fail
                go_roundg (x.length - (i + 1))
                case measure => have := HIN.out; omega
                case rel => exact ⟨i + 1, L, by have := HIN.out; omega, by go_num, hst3, HKI2⟩
              | false =>
                have hswd := hKc.sw.next hbd
                have hkd := HKEY.out.mono (fun g o hg => nw_away HM1.out hg hswd.away)
                obtain ⟨es4, clock4, hm4, hv4, hk4⟩ := hswd.map
                obtain ⟨w5, hput, haw, hes⟩ := map_put hkd hm4 hv4 (fun e he => (hk4 e he).mono fun g o hg => nw_away HM1.out hg hswd.away) (KeyOk w1) hk4 HKEY.out
                obtain ⟨ld, d0, d1, d2, d3, -⟩ := HFc.out.later hbe
                have hsw5 := hswd.put hM2 haw hes
                have hB8ne : B8 ≠ M := by have := hKc.ge; omega
                have hB8d : B8 < ((wc.drewN nq).alloc (.cells #[] 65)).heap.size := Nat.lt_of_lt_of_le hKc.lt hbd.size
                have q0 : w5.cell? ⟨B8, 0, none⟩ = some (.slice (some ⟨g1, o1, none⟩) x.length c1) := (haw.cell (p := ⟨B8, 0, none⟩) hB8d hB8ne).trans ((hbd.cell (p := ⟨B8, 0, none⟩) hKc.lt).trans hKc.k0)
                have q1 : w5.cell? ⟨B8, 1, none⟩ = some (.slice (some ⟨g2, o2, none⟩) x.length c2) := (haw.cell (p := ⟨B8, 1, none⟩) hB8d hB8ne).trans ((hbd.cell (p := ⟨B8, 1, none⟩) hKc.lt).trans hKc.k1)
                have hB85 : B8 < w5.heap.size := Nat.lt_of_lt_of_le hB8d haw.size
                have hrM : wr.heap.size ≠ M := by have := hKc.ge; omega
                have hrM2 : wr.heap.size + 1 ≠ M := by have := hKc.ge; omega
                obtain ⟨n0, -, -, -, t3, -⟩ := (HHFc1.out.later hbe).away haw hrM
                obtain ⟨n1', -, -, -, t4, -⟩ := (HHFc2.out.later hbe).away haw hrM2
                have hsw6 := hsw5.next (below_alloc w5 (.cells #[.slice (some ⟨ga, oa, none⟩) l1 la, .slice (some ⟨gb, ob, none⟩) l1 lb] 70))
                have HSW6 := Lib.hid hsw6
                have HO := Lib.hid hsw6.own
                have HQ01 := Lib.hid (And.intro hB85 (And.intro q0 q1))
                have HOFF := Lib.hid hKc.off
                have HGE := Lib.hid hKc.ge
                have hsz6 : w1.heap.size ≤ w5.heap.size := hsw5.away.size
                clear hKc hbc hswc hkc hmc hbd hbe hswd hkd hm4 hv4 hk4 haw hes hsw5 hsw6 hB8d hB8ne hB85 q0 q1 hrM hrM2
                go_wp2_with (at_builtin; refine wpList_append_own_at _ rfl _ _ 71 rfl w1.heap.size 70 i0 _ 2 48 Tryz.underlying71 hi hj0 hj1 hj2 rfl (by decide) _ _ _ rfl HO.out ⟨w5.heap.size, 0, none⟩ 1 1 [.slice (some ⟨ga, oa, none⟩) l1 la, .slice (some ⟨gb, ob, none⟩) l1 lb] rfl rfl (two_news _ _ _ _) (two_slc _ _ _ _ _ _) ?c3 ?c4 ?c5 ?_)
                case c3 => unfold maxLen; omega
                case c4 => omega
                case c5 => rw [alloc_size]; omega
                intro v' w6 hown' hgrow hnil hat
                have hpush : SW w1 M 70 w6 v' (L ++ [⟨ex.kids, ga, oa, la, gb, ob, lb⟩]) := HSW6.out.push hM2 (by rw [HCQ.out]; exact hown') hgrow HQ.out
                have hB8a : B8 < (w5.alloc (.cells #[.slice (some ⟨ga, oa, none⟩) l1 la, .slice (some ⟨gb, ob, none⟩) l1 lb] 70)).heap.size := by rw [alloc_size]; have := HQ01.out.1; omega
                have hB8n : some B8 ≠ Value.ownBlock u6 := fun e => HOFF.out e.symm
                have hKI6 : KI w1 M 70 ⟨x, g1, o1, c1, g2, o2, c2⟩ B8 w6 v' (L ++ [⟨ex.kids, ga, oa, la, gb, ob, lb⟩]) := by
                  refine ⟨hpush, Nat.lt_of_lt_of_le hB8a hgrow.size, HGE.out, ?_, ?_, ?_⟩
                  · exact hgrow.cell (a := ⟨B8, 0, none⟩) (((below_alloc w5 _).cell (p := ⟨B8, 0, none⟩) HQ01.out.1).trans HQ01.out.2.1) hB8n
                  · exact hgrow.cell (a := ⟨B8, 1, none⟩) (((below_alloc w5 _).cell (p := ⟨B8, 1, none⟩) HQ01.out.1).trans HQ01.out.2.2) hB8n
                  · rcases hat with e | e
                    · rw [e]; exact HOFF.out
                    · rw [e]; intro e2; injection e2 with e2; omega
                have HKI6 := Lib.hid hKI6
                have hst5 : stackN (L ++ [⟨ex.kids, ga, oa, la, gb, ob, lb⟩]) + nodesL (x.drop (i + 1)) + (i + 1) ≤ G := by rw [stackN_snoc]; exact hst4
                clear hown' hgrow hnil hat hpush hKI6 HSW6 HO HQ01
                go_wp2_with fail
                go_roundg (x.length - (i + 1))
                case measure => have := HIN.out; omega
                case rel => exact ⟨i + 1, _, by have := HIN.out; omega, by go_num, hst5, HKI6⟩
        · have hiz : ¬ (i : Int) < (x.length : Int) := by omega
          obtain rfl : i = x.length := by omega
          have HSW2 := Lib.hid hK.sw
          have hst2 : stackN L ≤ G - 1 := by omega
          have hgk : G - 1 < G := by omega
          clear hK HK hin HIN HST hst
          go_wp2_with fail
          go_roundg (G - 1)
          case measure => exact hgk
          case rel => exact ⟨L, hst2, by omega, HSW2⟩
end Go.Proofs.YtbbblmedoagncaaGreatDoor
