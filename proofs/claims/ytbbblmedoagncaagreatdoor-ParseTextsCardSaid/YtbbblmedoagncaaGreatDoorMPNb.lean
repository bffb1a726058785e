/- What holds while the names of an expression are gathered. -/
import Derived.Test.YtbbblmedoagncaaGreatDoorMPNa
import Derived.Test.YtbbblmedoagncaaGreatDoorGS
import Derived.Test.YtbbblmedoagncaaGreatDoorGJ
namespace Go.Proofs.YtbbblmedoagncaaGreatDoor
open Go.RowKit

theorem agg4p {a b c d e f g h : Value} (H : (.agg #[a, b, c, d] : Value) = .agg #[e, f, g, h]) : a = e ∧ b = f ∧ c = g ∧ d = h := by simpa using H
theorem nodes_len1 (es : List Ex) : es.length ≤ nodesL es := by
  induction es with
  | nil => simp [nodesL]
  | cons e es ih => rw [nodesL, List.length_cons]; have := nodes_pos e; omega
theorem drop_at1 {α : Type} {l : List α} {i : Nat} {e : α} (h : l[i]? = some e) : l.drop i = e :: l.drop (i + 1) := by
  obtain ⟨h1, rfl⟩ := List.getElem?_eq_some_iff.1 h
  exact List.drop_eq_getElem_cons h1
mutual
/-- The names in an expression, as the program goes through it. -/
def pnE : Ex → List ByteArray
  | .mk op _ s ks => (if op = 4 then [⟨s.toArray⟩] else []) ++ pnL ks
def pnL : List Ex → List ByteArray
  | [] => []
  | e :: es => pnE e ++ pnL es
end
theorem pnE_eq (e : Ex) : pnE e = (if e.op = 4 then [⟨e.str.toArray⟩] else []) ++ pnL e.kids := by cases e; rw [pnE]; rfl
theorem pnL_mem {s : ByteArray} : ∀ {es : List Ex}, s ∈ pnL es ↔ ∃ (i : Nat) (e : Ex), es[i]? = some e ∧ s ∈ pnE e
  | [] => by simp [pnL]
  | x :: es => by
    rw [pnL, List.mem_append, pnL_mem]
    constructor
    · rintro (h | ⟨i, e, h1, h2⟩)
      · exact ⟨0, x, rfl, h⟩
      · exact ⟨i + 1, e, by simpa using h1, h2⟩
    · rintro ⟨i, e, h1, h2⟩
      cases i with
      | zero => exact .inl (by obtain rfl : x = e := by simpa using h1
                               exact h2)
      | succ i => exact .inr ⟨i, e, by simpa using h1, h2⟩
theorem nodes_at : ∀ {es : List Ex} {i : Nat} {e : Ex}, es[i]? = some e → nodes e ≤ nodesL es
  | [], _, _, h => by simp at h
  | x :: es, 0, e, h => by obtain rfl : x = e := by simpa using h
                           rw [nodesL]; omega
  | x :: es, i + 1, e, h => by
    have := nodes_at (es := es) (i := i) (e := e) (by simpa using h)
    rw [nodesL]; omega
/-- All blocks but the map's (and none of the program's first). -/
def Sp (M : Nat) : Nat → Prop := fun b => 0 < b ∧ b ≠ M
theorem Sp.no {M : Nat} : ¬ Sp M 0 := fun h => absurd h.1 (Nat.lt_irrefl 0)
/-- A list that is open. -/
structure OpL where
  x : List Ex
  g : Nat
  o : Nat
  c : Nat
def OpL.cell (p : OpL) : Value := .slice (some ⟨p.g, p.o, none⟩) p.x.length p.c
def OpL.key (p : OpL) : PKey := (p.g, p.o, p.x.length)
structure OpL.ok (w : World) (M : Nat) (E : List ByteArray) (p : OpL) : Prop where
  lt : p.g < w.heap.size
  sp : Sp M p.g
  row : RowIn w (Sp M) p.g p.o p.x
  pos : 0 < p.x.length
  cap : p.x.length ≤ p.c
  big : p.x.length ≤ 4611686018427387904
  sub : ∀ s ∈ pnL p.x, s ∈ E
theorem OpL.ok.nb {w : World} {M : Nat} {E : List ByteArray} {p : OpL} (h : p.ok w M E) : NB w p.g := by
  obtain ⟨-, -, h, hp, -⟩ := h
  cases hx : p.x with
  | nil => rw [hx] at hp; simp at hp
  | cons e es => rw [hx] at h; exact h.made Sp.no
/-- This part has been gone through: its name is there, its kids' place is known. -/
def SeenP (w1 : World) (K : List PKey) (N : List ByteArray) (g o i : Nat) : Prop := ∀ op s ao l c, w1.cell? ⟨g, o + i * 4, none⟩ = some (.int .i64 op) → w1.cell? ⟨g, o + i * 4 + 2, none⟩ = some (.string s) → w1.cell? ⟨g, o + i * 4 + 3, none⟩ = some (.slice ao l c) →
  (op = 4 → s ∈ N) ∧ (0 < l → ∃ g' o', ao = some ⟨g', o', none⟩ ∧ ((g', o', l) : PKey) ∈ K)
/-- One of a list: its cells. -/
theorem OpL.ok.at {w1 wx : World} {M : Nat} {E : List ByteArray} {p : OpL} (h : p.ok w1 M E) (ha : Away M w1 wx) {i : Nat} {e : Ex} (hi : p.x[i]? = some e) :
    p.g < wx.heap.size ∧ ∃ ao cap, wx.cell? ⟨p.g, p.o + i * 4, none⟩ = some (.int .i64 e.op) ∧ wx.cell? ⟨p.g, p.o + i * 4 + 1, none⟩ = some (.int .i64 e.num) ∧ wx.cell? ⟨p.g, p.o + i * 4 + 2, none⟩ = some (.string ⟨e.str.toArray⟩) ∧ wx.cell? ⟨p.g, p.o + i * 4 + 3, none⟩ = some (.slice ao e.kids.length cap) ∧
      e.kids.length ≤ cap ∧ e.kids.length ≤ 4611686018427387904 ∧ (0 < e.kids.length → ∃ g' o', ao = some ⟨g', o', none⟩ ∧ OpL.ok w1 M E ⟨e.kids, g', o', cap⟩) ∧
      ∀ K N, (e.op = 4 → (⟨e.str.toArray⟩ : ByteArray) ∈ N) → (0 < e.kids.length → ∃ g' o', ao = some ⟨g', o', none⟩ ∧ ((g', o', e.kids.length) : PKey) ∈ K) → SeenP w1 K N p.g p.o i := by
  obtain ⟨v0, v1, v2, v3, c0, c1, c2, c3, he⟩ := h.row.at hi
  obtain ⟨ao, cap, hev, hcap, hbig, -, hk⟩ := he.get
  obtain ⟨rfl, rfl, rfl, rfl⟩ := agg4p hev
  have hne := h.sp.2
  refine ⟨Nat.lt_of_lt_of_le h.lt ha.size, ao, cap, (ha.cell (p := ⟨p.g, _, none⟩) h.lt hne).trans c0, (ha.cell (p := ⟨p.g, _, none⟩) h.lt hne).trans c1, (ha.cell (p := ⟨p.g, _, none⟩) h.lt hne).trans c2, (ha.cell (p := ⟨p.g, _, none⟩) h.lt hne).trans c3, hcap, hbig, fun h0 => ?_, fun K N h4 hK op s ao' l c' e0 e2 e3 => ?_⟩
  · obtain ⟨g', o', e1, e2, e3, e4⟩ := hk h0
    exact ⟨g', o', e1, e3, e2, e4, h0, hcap, hbig, fun s hs => h.sub s (pnL_mem.2 ⟨i, e, hi, by rw [pnE_eq]; exact List.mem_append_right _ hs⟩)⟩
  · rw [c0] at e0; rw [c2] at e2; rw [c3] at e3
    injection e0 with e0; injection e0 with _ e0; subst e0
    injection e2 with e2; injection e2 with e2; subst e2
    injection e3 with e3; injection e3 with e3 e3' _; subst e3; subst e3'
    exact ⟨h4, hK⟩
def DoneP (w1 : World) (K : List PKey) (N : List ByteArray) (p : PKey) : Prop := ∀ i, i < p.2.2 → SeenP w1 K N p.1 p.2.1 i
theorem SeenP.mono {w1 : World} {K K' : List PKey} {N N' : List ByteArray} {g o i : Nat} (h : SeenP w1 K N g o i) (hK : ∀ q ∈ K, q ∈ K') (hN : ∀ s ∈ N, s ∈ N') : SeenP w1 K' N' g o i := fun op s ao l c h0 h2 h3 => by
  obtain ⟨a, b⟩ := h op s ao l c h0 h2 h3
  refine ⟨fun e => hN _ (a e), fun e => ?_⟩
  obtain ⟨g', o', e1, e2⟩ := b e
  exact ⟨g', o', e1, hK _ e2⟩
theorem DoneP.mono {w1 : World} {K K' : List PKey} {N N' : List ByteArray} {p : PKey} (h : DoneP w1 K N p) (hK : ∀ q ∈ K, q ∈ K') (hN : ∀ s ∈ N, s ∈ N') : DoneP w1 K' N' p := fun i hi => (h i hi).mono hK hN
theorem seen_to {w1 : World} {K : List PKey} {N : List ByteArray} {g o i : Nat} (h : ∀ j, j < i → SeenP w1 K N g o j) (hi : SeenP w1 K N g o i) : ∀ j, j < i + 1 → SeenP w1 K N g o j := fun j hj => by
  by_cases hji : j < i
  · exact h j hji
  · obtain rfl : j = i := by omega
    exact hi
theorem four_block {w w' : World} {b : Nat} {x0 x1 x2 x3 : Value} (h : Four w b x0 x1 x2 x3) (hs : w.heap.size ≤ w'.heap.size) (e : w'.heap[b]? = w.heap[b]?) : Four w' b x0 x1 x2 x3 := by
  have c : ∀ i, w'.cell? ⟨b, i, none⟩ = w.cell? ⟨b, i, none⟩ := fun i => World.cell?_of_block (w := w) e
  have f : ∀ i, w'.frozen? ⟨b, i, none⟩ = w.frozen? ⟨b, i, none⟩ := fun i => World.frozen?_of_block (w := w) e
  exact ⟨Nat.lt_of_lt_of_le h.lt hs, (c 0).trans h.c0, (c 1).trans h.c1, (c 2).trans h.c2, (c 3).trans h.c3, (f 0).trans h.f0, (f 1).trans h.f1, (f 2).trans h.f2, (f 3).trans h.f3⟩
theorem slc_cell (A : Option Addr) (l c : Nat) : ∀ u ∈ [Value.slice A l c], u.oneCell' = true := by simp [Value.oneCell']
/-- Each known place is open, or at hand, or has been gone through. -/
def CoverP (w1 : World) (root : PKey) (K : List PKey) (N : List ByteArray) (L : List OpL) (cur : PKey → Prop) : Prop := ∀ p, p = root ∨ p ∈ K → (∃ q ∈ L, q.key = p) ∨ cur p ∨ DoneP w1 K N p
theorem CoverP.start (w1 : World) (l : OpL) : CoverP w1 l.key [] [] [l] (fun _ => False) := by
  rintro p (rfl | h)
  · exact .inl ⟨l, by simp, rfl⟩
  · cases h
theorem CoverP.pop {w1 : World} {root : PKey} {K : List PKey} {N : List ByteArray} {L : List OpL} {p : OpL} (h : CoverP w1 root K N (L ++ [p]) (fun _ => False)) : CoverP w1 root K N L (fun q => q = p.key) := by
  intro x hx
  rcases h x hx with ⟨q, hq, e⟩ | h | h
  · rcases List.mem_append.1 hq with hq | hq
    · exact .inl ⟨q, hq, e⟩
    · rw [List.mem_singleton.1 hq] at e
      exact .inr (.inl e.symm)
  · exact h.elim
  · exact .inr (.inr h)
theorem CoverP.close {w1 : World} {root : PKey} {K : List PKey} {N : List ByteArray} {L : List OpL} {p : OpL} (h : CoverP w1 root K N L (fun q => q = p.key)) (hd : ∀ i, i < p.x.length → SeenP w1 K N p.g p.o i) : CoverP w1 root K N L (fun _ => False) := by
  intro x hx
  rcases h x hx with h | h | h
  · exact .inl h
  · have h1 : x = p.key := h
    subst h1; exact .inr (.inr hd)
  · exact .inr (.inr h)
theorem CoverP.same {w1 : World} {root : PKey} {K : List PKey} {N N' : List ByteArray} {L : List OpL} {cur : PKey → Prop} (h : CoverP w1 root K N L cur) (hN : ∀ s ∈ N, s ∈ N') : CoverP w1 root K N' L cur := by
  intro x hx
  rcases h x hx with h | h | h
  · exact .inl h
  · exact .inr (.inl h)
  · exact .inr (.inr (h.mono (fun _ h => h) hN))
theorem CoverP.push {w1 : World} {root : PKey} {K : List PKey} {N : List ByteArray} {L : List OpL} {cur : PKey → Prop} (h : CoverP w1 root K N L cur) (q : OpL) : CoverP w1 root (K ++ [q.key]) N (L ++ [q]) cur := by
  have step : ∀ x, (x = root ∨ x ∈ K) → (∃ r ∈ L ++ [q], r.key = x) ∨ cur x ∨ DoneP w1 (K ++ [q.key]) N x := by
    intro x hx
    rcases h x hx with ⟨r, hr, e⟩ | h | h
    · exact .inl ⟨r, List.mem_append_left _ hr, e⟩
    · exact .inr (.inl h)
    · exact .inr (.inr (h.mono (fun _ h => List.mem_append_left _ h) (fun _ h => h)))
  rintro x (hx | hx)
  · exact step x (.inl hx)
  · rcases List.mem_append.1 hx with hx | hx
    · exact step x (.inr hx)
    · exact .inl ⟨q, by simp, (List.mem_singleton.1 hx).symm⟩
/-- Where nothing is open any more, all names are there. -/
theorem cover_all {w1 : World} {M : Nat} {root : PKey} {K : List PKey} {N : List ByteArray} (h : ∀ p, p = root ∨ p ∈ K → DoneP w1 K N p) : ∀ (n : Nat) (es : List Ex) (g o : Nat), nodesL es ≤ n → RowIn w1 (Sp M) g o es → (((g, o, es.length) : PKey) = root ∨ ((g, o, es.length) : PKey) ∈ K) → ∀ s ∈ pnL es, s ∈ N
  | n, es, g, o, hn, hr, hk, s, hs => by
    obtain ⟨i, e, hi, hse⟩ := pnL_mem.1 hs
    obtain ⟨v0, v1, v2, v3, c0, c1, c2, c3, he⟩ := hr.at hi
    obtain ⟨ao, cap, hev, hcap, hbig, -, hkids⟩ := he.get
    obtain ⟨rfl, rfl, rfl, rfl⟩ := agg4p hev
    have hil : i < es.length := (List.getElem?_eq_some_iff.1 hi).1
    obtain ⟨a, b⟩ := h _ hk i hil _ _ _ _ _ c0 c2 c3
    rw [pnE_eq] at hse
    rcases List.mem_append.1 hse with hse | hse
    · split at hse
      · rename_i h4
        rw [List.mem_singleton.1 hse]; exact a h4
      · cases hse
    · have h0 : 0 < e.kids.length := by
        cases hke : e.kids with
        | nil => rw [hke, pnL] at hse; cases hse
        | cons k ks => simp
      obtain ⟨g', o', e1, e2⟩ := b h0
      obtain ⟨g2, o2, f1, -, -, f4⟩ := hkids h0
      rw [e1] at f1
      injection f1 with f1
      injection f1 with f1 f2 _
      subst f1; subst f2
      have h1 := nodes_at hi
      have h2 := nodes_kids e
      cases n with
      | zero => omega
      | succ n => exact cover_all h n e.kids g' o' (by omega) f4 (.inr e2) s hse
/-- While names are gathered: the world, the open lists, the map, the names. -/
structure NSt (w1 : World) (M : Nat) (T TS : TypeId) (E : List ByteArray) (wr : World) (v u : Value) (L : List OpL) (K : List PKey) (N : List ByteArray) : Prop where
  away : Away M w1 wr
  own : wr.ownsRow w1.heap.size T 1 v L.length (L.map OpL.cell)
  nam : wr.ownsRow w1.heap.size TS 1 u N.length (N.map Value.string)
  map : MapR wr M K
  kok : ∀ q ∈ K, NB w1 q.1
  ok : ∀ p ∈ L, p.ok w1 M E
  snd : ∀ s ∈ N, s ∈ E
theorem NSt.next {w1 : World} {M : Nat} {T TS : TypeId} {E : List ByteArray} {wr w' : World} {v u : Value} {L : List OpL} {K : List PKey} {N : List ByteArray} (h : NSt w1 M T TS E wr v u L K N) (hb : Below wr.heap.size wr w') : NSt w1 M T TS E w' v u L K N :=
  ⟨h.away.next hb, own_stay h.own (fun k hk => hb.block k (own_blk h.own k hk).2), own_stay h.nam (fun k hk => hb.block k (own_blk h.nam k hk).2), h.map.same (hb.block M h.map.lt), h.kok, h.ok, h.snd⟩
theorem tags_apart {w : World} {n₀ n₁ e1 e2 s1 s2 n m : Nat} {v1 v2 : Value} {xs ys : List Value} (r1 : w.ownsRow n₀ e1 s1 v1 n xs) (r2 : w.ownsRow n₁ e2 s2 v2 m ys) (he : e1 ≠ e2) : ∀ k, v1.ownBlock = some k → v2.ownBlock ≠ some k := by
  intro k hk e'
  rcases r1.2 with ⟨rfl, _⟩ | ⟨g, cap, cur, rfl, _, hgb, _⟩
  · cases hk
  · injection hk with hk
    subst hk
    rcases r2.2 with ⟨rfl, _⟩ | ⟨g2, cap2, cur2, rfl, _, hgb2, _⟩
    · cases e'
    · injection e' with e'
      subst e'
      rw [hgb] at hgb2
      injection hgb2 with h
      injection h with _ h
      exact he h
theorem NSt.nb {w1 : World} {M : Nat} {T TS : TypeId} {E : List ByteArray} {wr : World} {v u : Value} {L : List OpL} {K : List PKey} {N : List ByteArray} (h : NSt w1 M T TS E wr v u L K N) {g : Nat} (hM : g ≠ M) (hg : NB w1 g) : NB wr g := hg.same (h.away.block g hg.lt hM)
theorem NSt.keys {w1 : World} {M : Nat} {T TS : TypeId} {E : List ByteArray} {wr : World} {v u : Value} {L : List OpL} {K : List PKey} {N : List ByteArray} (h : NSt w1 M T TS E wr v u L K N) (hM : MapR w1 M []) : ∀ q ∈ K, NB wr q.1 := fun q hq => h.nb (hM.ne _ (h.kok q hq)) (h.kok q hq)
/-- What lay there at the start stays when a row grows. -/
theorem away_grow {w1 wr w' : World} {M : Nat} (ha : Away M w1 wr) {row : Option Nat} (hg : wr.grownBy w' row) (hr : ∀ b, row = some b → w1.heap.size ≤ b) : Away M w1 w' ∧ ∀ k, k < w1.heap.size → w'.heap[k]? = wr.heap[k]? := by
  have hb : ∀ k, k < w1.heap.size → w'.heap[k]? = wr.heap[k]? := fun k hk => hg.block k (Nat.lt_of_lt_of_le hk ha.size) (fun e => by have := hr k e.symm; omega)
  exact ⟨⟨hg.os.trans ha.os, hg.tape.trans ha.tape, hg.output.trans ha.output, Nat.le_trans ha.size hg.size, fun k hk hn => (hb k hk).trans (ha.block k hk hn)⟩, hb⟩
theorem NSt.push {w1 : World} {M : Nat} {T TS : TypeId} {E : List ByteArray} {wr w' : World} {v v' u : Value} {L : List OpL} {K : List PKey} {N : List ByteArray} {q : OpL} (h : NSt w1 M T TS E wr v u L K N) (hMl : M < w1.heap.size) (hT : TS ≠ T) (ho : w'.ownsRow w1.heap.size T 1 v' (L.length + 1) (L.map OpL.cell ++ [q.cell])) (hg : wr.grownBy w' v.ownBlock) (hq : q.ok w1 M E) : NSt w1 M T TS E w' v' u (L ++ [q]) K N := by
  obtain ⟨ha, hb⟩ := away_grow h.away hg (fun b hb => (own_blk h.own b hb).1)
  refine ⟨ha, ?_, own_stay h.nam (fun k hk => hg.block k (own_blk h.nam k hk).2 (fun e => tags_apart h.nam h.own hT k hk e.symm)), h.map.same (hb M hMl), h.kok, fun p hp => ?_, h.snd⟩
  · rw [List.map_append, List.length_append]; exact ho
  · rcases List.mem_append.1 hp with hp | hp
    · exact h.ok p hp
    · rw [List.mem_singleton.1 hp]; exact hq
theorem NSt.name {w1 : World} {M : Nat} {T TS : TypeId} {E : List ByteArray} {wr w' : World} {v u u' : Value} {L : List OpL} {K : List PKey} {N : List ByteArray} {s : ByteArray} (h : NSt w1 M T TS E wr v u L K N) (hMl : M < w1.heap.size) (hT : TS ≠ T) (ho : w'.ownsRow w1.heap.size TS 1 u' (N.length + 1) (N.map Value.string ++ [.string s])) (hg : wr.grownBy w' u.ownBlock) (hs : s ∈ E) : NSt w1 M T TS E w' v u' L K (N ++ [s]) := by
  obtain ⟨ha, hb⟩ := away_grow h.away hg (fun b hb => (own_blk h.nam b hb).1)
  refine ⟨ha, own_stay h.own (fun k hk => hg.block k (own_blk h.own k hk).2 (fun e => tags_apart h.nam h.own hT k e.symm hk)), ?_, h.map.same (hb M hMl), h.kok, h.ok, fun p hp => ?_⟩
  · rw [List.map_append, List.length_append]; exact ho
  · rcases List.mem_append.1 hp with hp | hp
    · exact h.snd p hp
    · rw [List.mem_singleton.1 hp]; exact hs
theorem NSt.put {w1 : World} {M : Nat} {T TS : TypeId} {E : List ByteArray} {wr w' : World} {v u : Value} {L : List OpL} {K : List PKey} {N : List ByteArray} {p : PKey} (h : NSt w1 M T TS E wr v u L K N) (hMl : M < w1.heap.size) (ha : Away M wr w') (hm : MapR w' M (K ++ [p])) (hp : NB w1 p.1) : NSt w1 M T TS E w' v u L (K ++ [p]) N :=
  ⟨h.away.trans ha, own_stay h.own (fun k hk => ha.block k (own_blk h.own k hk).2 (by have := (own_blk h.own k hk).1; omega)), own_stay h.nam (fun k hk => ha.block k (own_blk h.nam k hk).2 (by have := (own_blk h.nam k hk).1; omega)), hm,
    fun q hq => by
      rcases List.mem_append.1 hq with hq | hq
      · exact h.kok q hq
      · rw [List.mem_singleton.1 hq]; exact hp, h.ok, h.snd⟩
theorem NSt.pop {w1 : World} {M : Nat} {T TS : TypeId} {E : List ByteArray} {wr : World} {u : Value} {g cap : Nat} {L : List OpL} {p : OpL} {K : List PKey} {N : List ByteArray} (h : NSt w1 M T TS E wr (.slice (some ⟨g, 0, none⟩) (L.length + 1) cap) u (L ++ [p]) K N) : NSt w1 M T TS E wr (.slice (some ⟨g, 0, none⟩) L.length cap) u L K N := by
  refine ⟨h.away, ?_, h.nam, h.map, h.kok, fun q hq => h.ok q (List.mem_append_left _ hq), h.snd⟩
  have ho := h.own
  refine ⟨by simp, .inr ?_⟩
  rcases ho.2 with ⟨hv, -⟩ | ⟨k, c, cur, hv, hbk, hk, hnc, hcm, hcs, ht⟩
  · cases hv
  · simp only [Value.slice.injEq, Option.some.injEq, Addr.mk.injEq, and_true] at hv
    obtain ⟨rfl, -, rfl⟩ := hv
    rw [List.length_append, List.length_singleton] at hnc ht
    refine ⟨g, cap, cur, rfl, hbk, hk, by omega, hcm, hcs, ?_⟩
    have e1 : (cur.toList.take ((L.length + 1) * 1)).take (L.length * 1) = cur.toList.take (L.length * 1) := by rw [List.take_take]; congr 1; omega
    rw [← e1, ht, List.map_append, Nat.mul_one]
    exact List.take_left' (by simp)
def openN (L : List OpL) : Nat := (L.map fun p => nodesL p.x).sum
theorem openN_snoc (L : List OpL) (p : OpL) : openN (L ++ [p]) = openN L + nodesL p.x := by simp [openN]
theorem open_le {w : World} {M : Nat} {E : List ByteArray} {L : List OpL} (h : ∀ p ∈ L, p.ok w M E) : L.length ≤ openN L := by
  induction L with
  | nil => simp [openN]
  | cons p L ih =>
    have h1 := (h p (.head _)).pos
    have h2 := nodes_len1 p.x
    have h3 := ih (fun q hq => h q (.tail _ hq))
    simp only [openN, List.map_cons, List.sum_cons, List.length_cons] at h3 ⊢
    omega
end Go.Proofs.YtbbblmedoagncaaGreatDoor
