/- Several texts in one: ParMap, ParSi, ParSo, ParPl. -/
import Derived.Test.YtbbblmedoagncaaGreatDoorGI
import Derived.Test.YtbbblmedoagncaaGreatDoorGF
import Derived.Laws.StructEq
import Derived.LaidEql
import Derived.MapKept
import Derived.ChangeKeysEq
import Derived.WideKeyRuns
import Derived.Deep.Draws
namespace Go.Proofs.YtbbblmedoagncaaGreatDoor
/- A map whose key is where two lists lie. Two places may be taken for one another where the model leaves that open (memory that may be a string's): what is one is always taken for one. -/
section
open Go.RowKit
set_option linter.unusedSimpArgs false

abbrev kv2 (a1 : Addr) (n1 : Int) (a2 : Addr) (n2 : Int) : Value := .agg #[.pointer (some a1), .int .i64 n1, .pointer (some a2), .int .i64 n2]
set_option maxRecDepth 1000000 in
theorem check_key (b : Bool) (a1 a2 : Addr) (n1 n2 : Int) (w : World) : (Instr.checkKey b 10000 72 (kv2 a1 n1 a2 n2)).run Tryz.prog w = .ok () w := by
  kernel_rfl
theorem drewN_add (w : World) (a b : Nat) : (w.drewN a).drewN b = w.drewN (a + b) := by unfold World.drewN; simp only [Nat.add_assoc]
theorem NW.drewN {w : World} {g o : Nat} (h : NW w g o) (n : Nat) : NW (w.drewN n) g o := h
theorem same_any_addr (g1 o1 g2 o2 : Nat) (w : World) (ha : NW w g1 o1) (hb : NW w g2 o2) :
    ∃ r n, (sameAddr ⟨g1, o1, none⟩ ⟨g2, o2, none⟩).run Tryz.prog w = .ok r (w.drewN n) ∧ ((⟨g1, o1, none⟩ : Addr) = ⟨g2, o2, none⟩ → r = true) := by
  obtain ⟨⟨ca, ta, fa, ha⟩, fza⟩ := ha
  obtain ⟨⟨cb, tb, fb, hb⟩, fzb⟩ := hb
  by_cases hg : g1 = g2
  · subst hg
    by_cases ho : o1 = o2
    · subst ho
      exact ⟨true, 0, by simp [sameAddr, World.drewN], fun _ => rfl⟩
    · exact ⟨false, 0, by simp [sameAddr, ho, World.drewN], fun e => absurd (congrArg Addr.off e) ho⟩
  · have hne : ¬ (⟨g1, o1, none⟩ : Addr) = ⟨g2, o2, none⟩ := fun e => hg (congrArg Addr.block e)
    have key : ∃ r n, (sameAddr ⟨g1, o1, none⟩ ⟨g2, o2, none⟩).run Tryz.prog w = .ok r (w.drewN n) := by
      simp [sameAddr, hg, fza, fzb, noView, viewAt, ha, hb, mayBeOne, stringish, World.shape?]
      repeat' split
      all_goals first
        | exact ⟨_, 0, rfl⟩
        | (simp [choose, Sem.run, Question.forced, Question.cut]
           first
             | exact ⟨_, 1, rfl⟩
             | exact ⟨1, rfl⟩
             | exact ⟨0, rfl⟩
             | (rcases Nat.mod_two_eq_zero_or_one (w.tape w.drawn (Question.extern "sameAddr.stringBytes" 2)) with h | h
                · exact .inl ⟨h, 1, rfl⟩
                · exact .inr ⟨h, 1, rfl⟩))
    obtain ⟨r, n, hr⟩ := key
    exact ⟨r, n, hr, fun e => absurd e hne⟩
/-- What a comparison tells: what is one is told to be one; nothing is written. -/
def Tells2 (x : Result Bool) (w : World) (c : Prop) : Prop := ∃ r n, x = .ok r (w.drewN n) ∧ (c → r = true)
theorem same_ptr (d : Nat) (g1 o1 g2 o2 : Nat) (w : World) (ha : NW w g1 o1) (hb : NW w g2 o2) :
    ∃ r n, (Op.equalIn (d + 1) 61 (.pointer (some ⟨g1, o1, none⟩)) (.pointer (some ⟨g2, o2, none⟩))).run Tryz.prog w = .ok r (w.drewN n) ∧ ((⟨g1, o1, none⟩ : Addr) = ⟨g2, o2, none⟩ → r = true) := by
  obtain ⟨r, n, h, hr⟩ := same_any_addr g1 o1 g2 o2 w ha hb
  exact ⟨r, n, by simp [Op.equalIn, run_underlying Tryz.underlying61, Tryz.sizeOf24, h], hr⟩
theorem same_place (d : Nat) (g1 o1 g2 o2 : Nat) (k l : Int) (w : World) (ha : NW w g1 o1) (hb : NW w g2 o2) :
    ∃ r n, (Op.equalIn (d + 2) 63 (.agg #[.pointer (some ⟨g1, o1, none⟩), .int .i64 k]) (.agg #[.pointer (some ⟨g2, o2, none⟩), .int .i64 l])).run Tryz.prog w = .ok r (w.drewN n) ∧ ((⟨g1, o1, none⟩ : Addr) = ⟨g2, o2, none⟩ ∧ k = l → r = true) := by
  obtain ⟨r, n, h, hr⟩ := same_ptr d g1 o1 g2 o2 w ha hb
  rw [run_equalIn_agg w (d + 1) 63 _ _ (by kernel_rfl) (by kernel_rfl)]
  cases r with
  | false => exact ⟨false, n, by simp [Program.fieldsOf, Tryz.underlying63, Op.eqFields, part, h, Tryz.isAgg61], fun e => hr e.1⟩
  | true =>
    refine ⟨k == l, n, ?_, fun e => by simp [e.2]⟩
    simp [Program.fieldsOf, Tryz.underlying63, Op.eqFields, part, h, run_equalIn_int _ _ _ _ _ _ _ Tryz.underlying3, Tryz.isAgg3, Tryz.isAgg61]
    by_cases h2 : k = l <;> simp [h2]
/-- A key: two lists' places, which are rows. -/
def KeyOk (w : World) (v : Value) : Prop := ∃ g1 o1 n1 g2 o2 n2, v = kv2 ⟨g1, o1, none⟩ n1 ⟨g2, o2, none⟩ n2 ∧ NW w g1 o1 ∧ NW w g2 o2
theorem KeyOk.mono {w w' : World} {v : Value} (h : KeyOk w v) (hs : ∀ g o, NW w g o → NW w' g o) : KeyOk w' v := by
  obtain ⟨g1, o1, n1, g2, o2, n2, e, h1, h2⟩ := h
  exact ⟨g1, o1, n1, g2, o2, n2, e, hs _ _ h1, hs _ _ h2⟩
theorem KeyOk.drewN {w : World} {v : Value} (h : KeyOk w v) (n : Nat) : KeyOk (w.drewN n) v := h
set_option maxRecDepth 100000 in
theorem same_key {k l : Value} {w : World} (hk : KeyOk w k) (hl : KeyOk w l) : ∃ r n, (Op.equal 72 k l).run Tryz.prog w = .ok r (w.drewN n) := by
  obtain ⟨g1, o1, k1, g2, o2, k2, rfl, ha1, ha2⟩ := hk
  obtain ⟨h1, p1, l1, h2, p2, l2, rfl, hb1, hb2⟩ := hl
  obtain ⟨i, hi⟩ : ∃ i, Tryz.prog.info? 63 = some i := ⟨_, rfl⟩
  obtain ⟨r, n, e1, -⟩ := same_place 9997 g1 o1 h1 p1 k1 l1 w ha1 hb1
  obtain ⟨s, m, e2, -⟩ := same_place 9997 g2 o2 h2 p2 k2 l2 (w.drewN n) ha2 hb2
  unfold Op.equal Op.maxDepth
  rw [run_equalIn_array w 9999 _ _ Tryz.underlying72 hi, show Tryz.prog.cellsOf 63 = 2 by kernel_rfl]
  have e : List.range 2 = [0, 1] := rfl
  rw [e]
  simp only [Op.eqItems, Sem.run_bind]
  cases r with
  | false => exact ⟨false, n, by simp [part, Tryz.isAgg63, Tryz.sizeOf63, e1]⟩
  | true => exact ⟨s, n + m, by rw [← drewN_add]; cases s <;> simp [part, Tryz.isAgg63, Tryz.sizeOf63, e1, e2]⟩
theorem find_asking {k : Value} : ∀ (es : List MapEntry) (i : Nat) (w : World), KeyOk w k → (∀ e ∈ es, KeyOk w e.key) →
    ∃ n, (Instr.findAsking 72 k es i).run Tryz.prog w = .ok none (w.drewN n) ∨ ∃ j e, (Instr.findAsking 72 k es i).run Tryz.prog w = .ok (some (i + j, e.val)) (w.drewN n) ∧ es[j]? = some e
  | [], i, w, _, _ => ⟨0, .inl (by simp [Instr.findAsking, World.drewN])⟩
  | e :: es, i, w, hk, h => by
    obtain ⟨r, n, hr⟩ := same_key hk (h e (.head _))
    cases r with
    | true => exact ⟨n, .inr ⟨0, e, by simp [Instr.findAsking, hr], rfl⟩⟩
    | false =>
      obtain ⟨m, h1⟩ := find_asking es (i + 1) (w.drewN n) (hk.drewN n) (fun x hx => (h x (.tail _ hx)).drewN n)
      refine ⟨n + m, ?_⟩
      rw [← drewN_add]
      rcases h1 with h1 | ⟨j, e', h1, h2⟩
      · exact .inl (by simp [Instr.findAsking, hr, h1])
      · exact .inr ⟨j + 1, e', by simp [Instr.findAsking, hr, h1]; omega, by simpa using h2⟩
theorem find_key {k : Value} {w : World} (hk : KeyOk w k) (es : List MapEntry) (h : ∀ e ∈ es, KeyOk w e.key) :
    ∃ n, (Instr.findKey 72 k es).run Tryz.prog w = .ok none (w.drewN n) ∨ ∃ j e, (Instr.findKey 72 k es).run Tryz.prog w = .ok (some (j, e.val)) (w.drewN n) ∧ es[j]? = some e := by
  rw [run_findKey_eq w (by rw [Tryz.underlying72])]
  obtain ⟨n, h1⟩ := find_asking es 0 w hk h
  refine ⟨n, ?_⟩
  rcases h1 with h1 | ⟨j, e, h1, h2⟩
  · exact .inl h1
  · exact .inr ⟨j, e, by rw [h1, Nat.zero_add], h2⟩
/-- The map of pairs of places: what it holds. -/
def MapAt (w : World) (r : Nat) : Prop := ∃ es clock, w.heap[r]? = some (.map es clock) ∧ (∀ e ∈ es.toList, e.val = .agg #[]) ∧ ∀ e ∈ es.toList, KeyOk w e.key
theorem check_ok {k : Value} {w : World} (hk : KeyOk w k) (b : Bool) : (Instr.checkKey b 10000 72 k).run Tryz.prog w = .ok () w := by
  obtain ⟨g1, o1, n1, g2, o2, n2, rfl, -, -⟩ := hk
  exact check_key b _ _ n1 n2 w
theorem make_map (w : World) : (Instr.makeMap 69 none).run Tryz.prog w = .ok (.map (some w.heap.size)) (w.alloc (.map #[] 0)) := by
  simp [Instr.makeMap, Result.andThen]
theorem get_map {w : World} {r : Nat} {es : Array MapEntry} {clock : Nat} (hb : w.heap[r]? = some (.map es clock)) : (getObj r).run Tryz.prog w = .ok (.map es clock) w := by
  simp [getObj, Sem.run, hb]
theorem set_map {w : World} {r : Nat} {es : Array MapEntry} {clock : Nat} (o : Obj) (hb : w.heap[r]? = some (.map es clock)) : (setObj r o).run Tryz.prog w = .ok () { w with heap := w.heap.setIfInBounds r o } := by
  simp [setObj, Sem.run, hb]
theorem map_lookup {k : Value} {w : World} {r : Nat} (hk : KeyOk w k) (h : MapAt w r) : ∃ (ok : Bool) (n : Nat),
    (Instr.lookup 69 (.map (some r)) k true).run Tryz.prog w = .ok (.tuple #[.agg #[], .bool ok]) (w.drewN n) := by
  obtain ⟨es, clock, hb, hvs, hks⟩ := h
  obtain ⟨n, h1⟩ := find_key hk es.toList hks
  rcases h1 with h1 | ⟨j, e, h1, h2⟩
  · exact ⟨false, n, by simp [Instr.lookup, run_underlying Tryz.underlying69, get_map hb, check_ok hk, h1, Tryz.zeroValue65]⟩
  · have hev := hvs e (List.mem_of_getElem? h2)
    exact ⟨true, n, by simp [Instr.lookup, run_underlying Tryz.underlying69, get_map hb, check_ok hk, h1, hev]⟩
theorem stays_key (old new : Value) (w : World) : ∃ (k : Value) (n : Nat), (Instr.keyThatStays old new).run Tryz.prog w = .ok k (w.drewN n) ∧ (k = old ∨ k = new) := by
  unfold Instr.keyThatStays
  by_cases h : Instr.sameBits 10000 old new = true
  · exact ⟨new, 0, by simp [h, World.drewN], .inr rfl⟩
  · refine ⟨if w.tape w.drawn (Question.extern "map.whichKeyStays" 2) % 2 = 0 then new else old, 1, ?_, ?_⟩
    · simp [h, choose, Sem.run, Question.forced, Question.cut]
      rfl
    · split
      · exact .inr rfl
      · exact .inl rfl
theorem map_put {k : Value} {w : World} {r : Nat} {es : Array MapEntry} {clock : Nat} (hk : KeyOk w k) (hb : w.heap[r]? = some (.map es clock)) (hvs : ∀ e ∈ es.toList, e.val = .agg #[]) (hks : ∀ e ∈ es.toList, KeyOk w e.key) (Q : Value → Prop) (hq : ∀ e ∈ es.toList, Q e.key) (hQ : Q k) : ∃ w',
    (Instr.mapUpdate 69 (.map (some r)) k (.agg #[])).run Tryz.prog w = .ok () w' ∧ Away r w w' ∧ ∃ es clock, w'.heap[r]? = some (.map es clock) ∧ (∀ e ∈ es.toList, e.val = .agg #[]) ∧ ∀ e ∈ es.toList, Q e.key := by
  obtain ⟨n, h1⟩ := find_key hk es.toList hks
  rcases h1 with h1 | ⟨j, e, h1, h2⟩
  · have hb' : (w.drewN n).heap[r]? = some (.map es clock) := hb
    refine ⟨{ (w.drewN n) with heap := (w.drewN n).heap.setIfInBounds r (.map (es.push { key := k, val := .agg #[], born := clock }) (clock + 1)) }, ?_, ?_, ?_⟩
    · simp [Instr.mapUpdate, run_underlying Tryz.underlying69, get_map hb, check_ok hk, h1, set_map _ hb']
    · exact ⟨rfl, rfl, rfl, by simp [World.drewN], fun i _ hi => (Go.MapKept.heap_set hb').2 i hi⟩
    · refine ⟨_, _, (Go.MapKept.heap_set hb').1, fun e he => ?_, fun e he => ?_⟩
      all_goals
        rw [Array.toList_push, List.mem_append] at he
        rcases he with he | he
      · exact hvs e he
      · rw [List.mem_singleton.1 he]
      · exact hq e he
      · rw [List.mem_singleton.1 he]; exact hQ
  · obtain ⟨k', m, hs, hk'⟩ := stays_key (((es[j]?).map (·.key)).getD k) k (w.drewN n)
    have hje : es[j]? = some e := by simpa using h2
    rw [hje] at hs hk'
    rw [drewN_add] at hs
    simp only [Option.map_some, Option.getD_some] at hs hk'
    have hkk : Q k' := by
      rcases hk' with rfl | rfl
      · exact hq e (List.mem_of_getElem? h2)
      · exact hQ
    have hb' : (w.drewN (n + m)).heap[r]? = some (.map es clock) := hb
    refine ⟨{ (w.drewN (n + m)) with heap := (w.drewN (n + m)).heap.setIfInBounds r (.map (es.modify j fun e => { e with key := k', val := .agg #[] }) clock) }, ?_, ?_, ?_⟩
    · simp [Instr.mapUpdate, run_underlying Tryz.underlying69, get_map hb, check_ok hk, h1, hje, hs, set_map _ hb']
    · exact ⟨rfl, rfl, rfl, by simp [World.drewN], fun i _ hi => (Go.MapKept.heap_set hb').2 i hi⟩
    · have hm : ∀ x ∈ (es.modify j fun e => { e with key := k', val := .agg #[] }).toList, x ∈ es.toList ∨ (x.key = k' ∧ x.val = .agg #[]) := by
        intro x hx
        obtain ⟨i, hi⟩ := List.mem_iff_getElem?.1 hx
        rw [Array.getElem?_toList, Array.getElem?_modify] at hi
        by_cases hij : j = i
        · rw [if_pos hij] at hi
          cases hy : es[i]? with
          | none => rw [hy] at hi; cases hi
          | some y =>
            rw [hy] at hi
            simp only [Option.map_some, Option.some.injEq] at hi
            subst hi
            exact .inr ⟨rfl, rfl⟩
        · rw [if_neg hij] at hi
          exact .inl (List.mem_of_getElem? (by simpa using hi))
      refine ⟨_, _, (Go.MapKept.heap_set hb').1, fun x hx => ?_, fun x hx => ?_⟩
      · rcases hm x hx with h | h
        · exact hvs x h
        · exact h.2
      · rcases hm x hx with h | h
        · exact hq x h
        · rw [h.1]; exact hkk
end
/- What holds while an expression is compared with itself, list by list, elsewhere in memory. -/
section

/-- Two lists that lie in memory. -/
structure PrL where
  x : List Ex
  g1 : Nat
  o1 : Nat
  c1 : Nat
  g2 : Nat
  o2 : Nat
  c2 : Nat
def Row1 (w : World) (M g o : Nat) (es : List Ex) : Prop := g < w.heap.size ∧ g ≠ M ∧ RowIn w (fun b => b ≠ M) g o es
/-- They are the same expressions. -/
structure PrL.ok (w : World) (M : Nat) (p : PrL) : Prop where
  one : Row1 w M p.g1 p.o1 p.x
  two : Row1 w M p.g2 p.o2 p.x
  pos : 0 < p.x.length
  cap1 : p.x.length ≤ p.c1
  cap2 : p.x.length ≤ p.c2
  big : p.x.length ≤ 4611686018427387904
def PrL.cells (p : PrL) : List Value := [.slice (some ⟨p.g1, p.o1, none⟩) p.x.length p.c1, .slice (some ⟨p.g2, p.o2, none⟩) p.x.length p.c2]
theorem nodes_kids (e : Ex) : nodes e = nodesL e.kids + 1 := by cases e; rw [nodes]; unfold Ex.kids; dsimp only <;> omega
end
/- The list of what is still to be compared, in memory. -/
section

/-- What lies in the list. -/
def stackV (L : List PrL) : List Value := L.flatMap PrL.cells
theorem stackV_snoc (L : List PrL) (p : PrL) : stackV (L ++ [p]) = stackV L ++ p.cells := by simp [stackV]
theorem stackV_len (L : List PrL) : (stackV L).length = L.length * 2 := by
  induction L with
  | nil => rfl
  | cons p L ih =>
    have : stackV (p :: L) = p.cells ++ stackV L := by simp [stackV]
    rw [this, List.length_append, ih, List.length_cons]
    simp [PrL.cells]; omega
/-- One less of an own list. -/
theorem own_pop {w : World} {B g n cap : Nat} {e : TypeId} {xs ys : List Value} (h : w.ownsRow B e 2 (.slice (some ⟨g, 0, none⟩) (n + 1) cap) (n + 1) (xs ++ ys)) (hx : xs.length = n * 2) : w.ownsRow B e 2 (.slice (some ⟨g, 0, none⟩) n cap) n xs := by
  refine ⟨hx, .inr ?_⟩
  rcases h.2 with ⟨hv, -⟩ | ⟨k, c, cur, hv, hbk, hk, hnc, hcm, hcs, ht⟩
  · cases hv
  · simp only [Value.slice.injEq, Option.some.injEq, Addr.mk.injEq, and_true, true_and] at hv
    obtain ⟨rfl, rfl⟩ := hv
    refine ⟨g, cap, cur, rfl, hbk, hk, by omega, hcm, hcs, ?_⟩
    have e1 : (cur.toList.take ((n + 1) * 2)).take (n * 2) = cur.toList.take (n * 2) := by rw [List.take_take]; congr 1; omega
    rw [← e1, ht, ← hx, List.take_left]
/-- The first list: of one pair. -/
theorem own_first (w : World) (x y : Value) (e : TypeId) : (w.alloc (.cells #[x, y] e)).ownsRow w.heap.size e 2 (.slice (some ⟨w.heap.size, 0, none⟩) 1 1) 1 [x, y] :=
  ⟨rfl, .inr ⟨w.heap.size, 1, #[x, y], rfl, Nat.le_refl _, alloc_at w _, Nat.le_refl _, by unfold maxLen; omega, rfl, rfl⟩⟩
/-- Rows that were there stay, though the map is written. -/
theorem nw_away {w w' : World} {M g o : Nat} {es : Array MapEntry} {clock : Nat} (hM : w.heap[M]? = some (.map es clock)) (h : NW w g o) (ha : Away M w w') : NW w' g o := by
  have hne : g ≠ M := by
    rintro rfl
    obtain ⟨⟨cs, t, fr, h⟩, -⟩ := h
    rw [hM] at h
    cases h
  exact h.same (ha.block g h.lt hne)
/-- While two are compared: the world, the list, the map. -/
structure SW (w1 : World) (M : Nat) (T : TypeId) (wr : World) (v : Value) (L : List PrL) : Prop where
  away : Away M w1 wr
  own : wr.ownsRow w1.heap.size T 2 v L.length (stackV L)
  map : ∃ es clock, wr.heap[M]? = some (.map es clock) ∧ (∀ e ∈ es.toList, e.val = .agg #[]) ∧ ∀ e ∈ es.toList, KeyOk w1 e.key
  ok : ∀ p ∈ L, p.ok w1 M
theorem SW.mapAt {w1 : World} {M : Nat} {T : TypeId} {wr : World} {v : Value} {L : List PrL} {es : Array MapEntry} {clock : Nat} (hM : w1.heap[M]? = some (.map es clock)) (h : SW w1 M T wr v L) : MapAt wr M := by
  obtain ⟨es, clock, h1, h2, h3⟩ := h.map
  exact ⟨es, clock, h1, h2, fun e he => (h3 e he).mono fun g o hg => nw_away hM hg h.away⟩
end
/- parse.placeOf: where a list lies. -/
section
open Go.RowKit

set_option maxHeartbeats 1000000 in
set_option maxRecDepth 100000 in
theorem placeof_any (g o l cap : Nat) (w : World) (h0 : 0 < l) (hl : l ≤ 4611686018427387904) :
    Calls Tryz.prog 38 #[.slice (some ⟨g, o, none⟩) l cap] w fun e w' => e = .returned (.agg #[.pointer (some ⟨g, o, none⟩), .int .i64 (l : Int)]) ∧ Below w.heap.size w w' := by
  have hlz : (0 : Int) < (l : Int) := by omega
  have hb := below_alloc w (.cells #[.pointer (some ⟨g, o, none⟩), .int .i64 (l : Int)] 63)
  go_enter Tryz.func38, Tryz.ntmps38
  go_wp2_with fail
  exact bodyPost_ret (v := .agg #[.pointer (some ⟨g, o, none⟩), .int .i64 (l : Int)]) (by simp [results, Tryz.results38, go_sem]) rfl ⟨rfl, hb⟩
end
end Go.Proofs.YtbbblmedoagncaaGreatDoor
