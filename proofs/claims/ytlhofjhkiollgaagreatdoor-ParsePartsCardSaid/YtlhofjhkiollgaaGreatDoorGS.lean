/- Several texts in one: ParMap, ParSm, ParSi, ParSo, ParPl. -/
import Derived.Test.YtlhofjhkiollgaaGreatDoorGI
import Derived.Test.YtlhofjhkiollgaaGreatDoorGF
import Derived.Laws.StructEq
import Derived.LaidEql
import Derived.MapKept
import Derived.ChangeKeysEq
import Derived.WideKeyRuns
namespace Go.Proofs.YtlhofjhkiollgaaGreatDoor
/- A map whose key is where two lists lie. -/
section
open Go.RowKit

abbrev kv2 (a1 : Addr) (n1 : Int) (a2 : Addr) (n2 : Int) : Value := .agg #[.pointer (some a1), .int .i64 n1, .pointer (some a2), .int .i64 n2]
set_option maxRecDepth 1000000 in
theorem check_key (b : Bool) (a1 a2 : Addr) (n1 n2 : Int) (w : World) : (Instr.checkKey b 10000 84 (kv2 a1 n1 a2 n2)).run Tryz.prog w = .ok () w := by
  kernel_rfl
theorem same_ptr (n : Nat) (a b : Addr) (w : World) (ha : NB w a.block) (hb : NB w b.block) :
    (Op.equalIn (n + 1) 73 (.pointer (some a)) (.pointer (some b))).run Tryz.prog w = .ok (decide (a = b)) w := by
  obtain ⟨ca, ta, ha⟩ := ha
  obtain ⟨cb, tb, hb⟩ := hb
  by_cases h : a = b
  · subst h
    simp [Op.equalIn, run_underlying Tryz.underlying73, Tryz.sizeOf25, run_sameAddr_same]
  · rw [decide_eq_false h]
    simp [Op.equalIn, run_underlying Tryz.underlying73, Tryz.sizeOf25, run_sameAddr_other w h ha hb]
theorem same_place (n : Nat) (a b : Addr) (k l : Int) (w : World) (ha : NB w a.block) (hb : NB w b.block) :
    (Op.equalIn (n + 2) 75 (.agg #[.pointer (some a), .int .i64 k]) (.agg #[.pointer (some b), .int .i64 l])).run Tryz.prog w = .ok (decide (a = b) && k == l) w := by
  rw [run_equalIn_agg w (n + 1) 75 _ _ (by kernel_rfl) (by kernel_rfl)]
  simp [Program.fieldsOf, Tryz.underlying75, Op.eqFields, part, same_ptr n a b w ha hb, run_equalIn_int _ _ _ _ _ _ _ Tryz.underlying3, Tryz.isAgg3, Tryz.isAgg73]
  by_cases h1 : a = b <;> by_cases h2 : k = l <;> simp [h1, h2]
/-- A key: two lists' places, which are rows. -/
def KeyOk (w : World) (v : Value) : Prop := ∃ a1 n1 a2 n2, v = kv2 a1 n1 a2 n2 ∧ NB w a1.block ∧ NB w a2.block
theorem KeyOk.mono {w w' : World} {v : Value} (h : KeyOk w v) (hs : ∀ g, NB w g → NB w' g) : KeyOk w' v := by
  obtain ⟨a1, n1, a2, n2, e, h1, h2⟩ := h
  exact ⟨a1, n1, a2, n2, e, hs _ h1, hs _ h2⟩
theorem kv2_inj {a1 a2 b1 b2 : Addr} {k1 k2 l1 l2 : Int} : kv2 a1 k1 a2 k2 = kv2 b1 l1 b2 l2 ↔ a1 = b1 ∧ k1 = l1 ∧ a2 = b2 ∧ k2 = l2 := by
  constructor
  · intro h; simpa [kv2] using h
  · rintro ⟨rfl, rfl, rfl, rfl⟩; rfl
set_option maxRecDepth 100000 in
theorem same_key {k l : Value} {w : World} (hk : KeyOk w k) (hl : KeyOk w l) : ∃ r, (Op.equal 84 k l).run Tryz.prog w = .ok r w ∧ (r = true ↔ k = l) := by
  obtain ⟨a1, k1, a2, k2, rfl, ha1, ha2⟩ := hk
  obtain ⟨b1, l1, b2, l2, rfl, hb1, hb2⟩ := hl
  obtain ⟨i, hi⟩ : ∃ i, Tryz.prog.info? 75 = some i := ⟨_, rfl⟩
  refine ⟨(decide (a1 = b1) && k1 == l1) && (decide (a2 = b2) && k2 == l2), ?_, ?_⟩
  · unfold Op.equal Op.maxDepth
    rw [run_equalIn_array w 9999 _ _ Tryz.underlying84 hi, show Tryz.prog.cellsOf 75 = 2 by kernel_rfl]
    have h1 := same_place 9997 a1 b1 k1 l1 w ha1 hb1
    have h2 := same_place 9997 a2 b2 k2 l2 w ha2 hb2
    have e : List.range 2 = [0, 1] := rfl
    rw [e]
    simp only [Op.eqItems, Sem.run_bind]
    simp [part, Tryz.isAgg75, Tryz.sizeOf75, h1, h2]
    by_cases q1 : a1 = b1 <;> by_cases q2 : k1 = l1 <;> by_cases q3 : a2 = b2 <;> by_cases q4 : k2 = l2 <;> simp [q1, q2, q3, q4]
  · rw [kv2_inj]; simp [and_assoc]
theorem find_asking {k : Value} {w : World} (hk : KeyOk w k) : ∀ (es : List MapEntry) (i : Nat), (∀ e ∈ es, KeyOk w e.key) →
    ((Instr.findAsking 84 k es i).run Tryz.prog w = .ok none w ∧ ∀ e ∈ es, e.key ≠ k) ∨ ∃ j e, (Instr.findAsking 84 k es i).run Tryz.prog w = .ok (some (i + j, e.val)) w ∧ es[j]? = some e ∧ e.key = k
  | [], i, _ => .inl ⟨by simp [Instr.findAsking], by simp⟩
  | e :: es, i, h => by
    obtain ⟨r, hr, hiff⟩ := same_key hk (h e (.head _))
    cases r with
    | true => exact .inr ⟨0, e, by simp [Instr.findAsking, hr], rfl, (hiff.1 rfl).symm⟩
    | false =>
      have hne : e.key ≠ k := fun q => by have := hiff.2 q.symm; cases this
      rcases find_asking hk es (i + 1) (fun x hx => h x (.tail _ hx)) with ⟨h1, h2⟩ | ⟨j, e', h1, h2, h3⟩
      · exact .inl ⟨by simp [Instr.findAsking, hr, h1], fun x hx => by
          cases hx with
          | head => exact hne
          | tail _ hx => exact h2 x hx⟩
      · exact .inr ⟨j + 1, e', by simp [Instr.findAsking, hr, h1]; omega, by simpa using h2, h3⟩
theorem find_key {k : Value} {w : World} (hk : KeyOk w k) (es : List MapEntry) (h : ∀ e ∈ es, KeyOk w e.key) :
    ((Instr.findKey 84 k es).run Tryz.prog w = .ok none w ∧ ∀ e ∈ es, e.key ≠ k) ∨ ∃ j e, (Instr.findKey 84 k es).run Tryz.prog w = .ok (some (j, e.val)) w ∧ es[j]? = some e ∧ e.key = k := by
  rw [run_findKey_eq w (by rw [Tryz.underlying84])]
  rcases find_asking hk es 0 h with h1 | ⟨j, e, h1, h2, h3⟩
  · exact .inl h1
  · exact .inr ⟨j, e, by rw [h1, Nat.zero_add], h2, h3⟩
/-- The map of pairs of places: its entries' keys. -/
def MapAt (w : World) (r : Nat) (ks : List Value) : Prop := ∃ es clock, w.heap[r]? = some (.map es clock) ∧ es.toList.map (·.key) = ks ∧ (∀ e ∈ es.toList, e.val = .agg #[]) ∧ ∀ k ∈ ks, KeyOk w k
theorem check_ok {k : Value} {w : World} (hk : KeyOk w k) (b : Bool) : (Instr.checkKey b 10000 84 k).run Tryz.prog w = .ok () w := by
  obtain ⟨a1, n1, a2, n2, rfl, -, -⟩ := hk
  exact check_key b a1 a2 n1 n2 w
theorem make_map (w : World) : (Instr.makeMap 81 none).run Tryz.prog w = .ok (.map (some w.heap.size)) (w.alloc (.map #[] 0)) := by
  simp [Instr.makeMap, Result.andThen]
theorem get_map {w : World} {r : Nat} {es : Array MapEntry} {clock : Nat} (hb : w.heap[r]? = some (.map es clock)) : (getObj r).run Tryz.prog w = .ok (.map es clock) w := by
  simp [getObj, Sem.run, hb]
theorem set_map {w : World} {r : Nat} {es : Array MapEntry} {clock : Nat} (o : Obj) (hb : w.heap[r]? = some (.map es clock)) : (setObj r o).run Tryz.prog w = .ok () { w with heap := w.heap.setIfInBounds r o } := by
  simp [setObj, Sem.run, hb]
theorem map_lookup {k : Value} {w : World} {r : Nat} {ks : List Value} (hk : KeyOk w k) (h : MapAt w r ks) : ∃ (ok : Bool),
    (Instr.lookup 81 (.map (some r)) k true).run Tryz.prog w = .ok (.tuple #[.agg #[], .bool ok]) w ∧ (ok = true ↔ k ∈ ks) := by
  obtain ⟨es, clock, hb, hks, hvs, hall⟩ := h
  subst hks
  have hall' : ∀ e ∈ es.toList, KeyOk w e.key := fun e he => hall _ (List.mem_map.2 ⟨e, he, rfl⟩)
  rcases find_key hk es.toList hall' with ⟨h1, h2⟩ | ⟨j, e, h1, h2, h3⟩
  · refine ⟨false, ?_, ?_⟩
    · simp [Instr.lookup, run_underlying Tryz.underlying81, get_map hb, check_ok hk, h1, Tryz.zeroValue77]
    · constructor
      · intro h; cases h
      · intro h
        obtain ⟨e, he, hek⟩ := List.mem_map.1 h
        exact absurd hek (h2 e he)
  · have hev := hvs e (List.mem_of_getElem? h2)
    refine ⟨true, ?_, ?_⟩
    · simp [Instr.lookup, run_underlying Tryz.underlying81, get_map hb, check_ok hk, h1, hev]
    · exact ⟨fun _ => List.mem_map.2 ⟨e, List.mem_of_getElem? h2, h3⟩, fun _ => rfl⟩
theorem map_put {k : Value} {w : World} {r : Nat} {ks : List Value} (hk : KeyOk w k) (h : MapAt w r ks) (hn : k ∉ ks) : ∃ w',
    (Instr.mapUpdate 81 (.map (some r)) k (.agg #[])).run Tryz.prog w = .ok () w' ∧ Away r w w' ∧ ∃ es clock, w'.heap[r]? = some (.map es clock) ∧ es.toList.map (·.key) = ks ++ [k] ∧ ∀ e ∈ es.toList, e.val = .agg #[] := by
  obtain ⟨es, clock, hb, hks, hvs, hall⟩ := h
  subst hks
  have hall' : ∀ e ∈ es.toList, KeyOk w e.key := fun e he => hall _ (List.mem_map.2 ⟨e, he, rfl⟩)
  rcases find_key hk es.toList hall' with ⟨h1, h2⟩ | ⟨j, e, h1, h2, h3⟩
  · refine ⟨{ w with heap := w.heap.setIfInBounds r (.map (es.push { key := k, val := .agg #[], born := clock }) (clock + 1)) }, ?_, ?_, ?_⟩
    · simp [Instr.mapUpdate, run_underlying Tryz.underlying81, get_map hb, check_ok hk, h1, set_map _ hb]
    · exact ⟨rfl, rfl, rfl, by simp, fun i _ hi => (Go.MapKept.heap_set hb).2 i hi⟩
    · refine ⟨_, _, (Go.MapKept.heap_set hb).1, by simp, fun e he => ?_⟩
      rw [Array.toList_push, List.mem_append] at he
      rcases he with he | he
      · exact hvs e he
      · rw [List.mem_singleton.1 he]
  · exact absurd (List.mem_map.2 ⟨e, List.mem_of_getElem? h2, h3⟩) hn
end
/- Two expressions in memory: what lies at one place is one; what agrees part by part, down to the leaves, is the same. -/
section

mutual
/-- A value reads as one expression. -/
theorem ExIn.det {w : World} {S T : Nat → Prop} : ∀ (e f : Ex) (v : Value), ExIn w S e v → ExIn w T f v → e = f
  | .mk op n s ks, .mk op2 n2 s2 ks2, v, he, hf => by
    rw [ExIn] at he hf
    obtain ⟨-, ao, cap, rfl, -, -, hk⟩ := he
    obtain ⟨-, ao2, cap2, hv, -, -, hk2⟩ := hf
    simp only [Value.agg.injEq, Array.mk.injEq, List.cons.injEq, Value.int.injEq, Value.string.injEq, Value.slice.injEq, ByteArray.mk.injEq, true_and, and_true] at hv
    obtain ⟨rfl, rfl, rfl, rfl, hl, rfl⟩ := hv
    have hks : ks = ks2 := by
      by_cases h0 : 0 < ks.length
      · obtain ⟨g, o, rfl, -, -, hr⟩ := hk h0
        obtain ⟨g2, o2, ha, -, -, hr2⟩ := hk2 (by omega)
        simp only [Option.some.injEq, Addr.mk.injEq, and_true] at ha
        obtain ⟨rfl, rfl⟩ := ha
        exact RowIn.det ks ks2 g o hl hr hr2
      · rw [List.length_eq_zero_iff.1 (by omega : ks.length = 0), List.length_eq_zero_iff.1 (by omega : ks2.length = 0)]
    rw [hks]
theorem RowIn.det {w : World} {S T : Nat → Prop} : ∀ (es fs : List Ex) (g o : Nat), es.length = fs.length → RowIn w S g o es → RowIn w T g o fs → es = fs
  | [], [], _, _, _, _, _ => rfl
  | [], _ :: _, _, _, h, _, _ => by simp at h
  | _ :: _, [], _, _, h, _, _ => by simp at h
  | e :: es, f :: fs, g, o, h, he, hf => by
    rw [RowIn] at he hf
    obtain ⟨-, ⟨v0, v1, v2, v3, c0, c1, c2, c3, hx⟩, hr⟩ := he
    obtain ⟨-, ⟨u0, u1, u2, u3, d0, d1, d2, d3, hy⟩, hq⟩ := hf
    obtain rfl : v0 = u0 := by rw [c0] at d0; exact Option.some.inj d0
    obtain rfl : v1 = u1 := by rw [c1] at d1; exact Option.some.inj d1
    obtain rfl : v2 = u2 := by rw [c2] at d2; exact Option.some.inj d2
    obtain rfl : v3 = u3 := by rw [c3] at d3; exact Option.some.inj d3
    rw [ExIn.det e f _ hx hy, RowIn.det es fs g (o + 4) (by simpa using h) hr hq]
end
/-- Two lists agree part by part; what kids there are, is told elsewhere. -/
def Shal (P : List Ex → List Ex → Prop) (x y : List Ex) : Prop :=
  x.length = y.length ∧ ∀ (i : Nat) (e f : Ex), x[i]? = some e → y[i]? = some f → e.op = f.op ∧ e.num = f.num ∧ e.str = f.str ∧ e.kids.length = f.kids.length ∧ (0 < e.kids.length → P e.kids f.kids)
theorem nodes_kids (e : Ex) : nodes e = nodesL e.kids + 1 := by cases e; rw [nodes]; unfold Ex.kids; dsimp only <;> omega
theorem ex_eta (e : Ex) : e = .mk e.op e.num e.str e.kids := by cases e; rfl
theorem nodes_mem {k : Ex} : ∀ {ks : List Ex}, k ∈ ks → nodes k ≤ nodesL ks
  | x :: xs, h => by
    rw [nodesL]
    rcases List.mem_cons.1 h with rfl | h
    · omega
    · have := nodes_mem h; omega
/-- What agrees everywhere is the same. -/
theorem shal_same {P : List Ex → List Ex → Prop} (h : ∀ x y, P x y → Shal P x y) : ∀ (n : Nat) (x y : List Ex), nodesL x ≤ n → P x y → x = y := by
  intro n
  induction n with
  | zero =>
    intro x y hn hp
    obtain ⟨hl, -⟩ := h x y hp
    have hx : x = [] := by
      cases x with
      | nil => rfl
      | cons e es => rw [nodesL] at hn; have := nodes_pos e; omega
    subst hx
    exact (List.length_eq_zero_iff.1 hl.symm).symm
  | succ n ih =>
    intro x y hn hp
    obtain ⟨hl, ha⟩ := h x y hp
    refine List.ext_getElem? fun i => ?_
    by_cases hi : i < x.length
    · have e1 : x[i]? = some x[i] := List.getElem?_eq_getElem hi
      have e2 : y[i]? = some (y[i]'(by omega)) := List.getElem?_eq_getElem (by omega)
      obtain ⟨h1, h2, h3, h4, h5⟩ := ha i _ _ e1 e2
      rw [e1, e2]
      congr 1
      rw [ex_eta x[i], ex_eta (y[i]'(by omega)), h1, h2, h3]
      congr 1
      by_cases h0 : 0 < x[i].kids.length
      · refine ih _ _ ?_ (h5 h0)
        have := nodes_mem (List.getElem_mem hi)
        rw [nodes_kids] at this
        omega
      · rw [List.length_eq_zero_iff.1 (by omega : x[i].kids.length = 0), List.length_eq_zero_iff.1 (by omega : (y[i]'(by omega)).kids.length = 0)]
    · rw [List.getElem?_eq_none (by omega), List.getElem?_eq_none (by omega)]
end
/- What holds while two expressions are compared, list by list. -/
section

/-- Two lists that lie in memory. -/
structure PrL where
  x : List Ex
  y : List Ex
  g1 : Nat
  o1 : Nat
  c1 : Nat
  g2 : Nat
  o2 : Nat
  c2 : Nat
def Row1 (w : World) (M g o : Nat) (es : List Ex) : Prop := g < w.heap.size ∧ g ≠ M ∧ RowIn w (fun b => b ≠ M) g o es
structure PrL.ok (w : World) (M : Nat) (p : PrL) : Prop where
  one : Row1 w M p.g1 p.o1 p.x
  two : Row1 w M p.g2 p.o2 p.y
  pos : 0 < p.x.length
  len : p.y.length = p.x.length
  cap1 : p.x.length ≤ p.c1
  cap2 : p.x.length ≤ p.c2
  big : p.x.length ≤ 4611686018427387904
def PrL.key (p : PrL) : Value := kv2 ⟨p.g1, p.o1, none⟩ (p.x.length : Int) ⟨p.g2, p.o2, none⟩ (p.y.length : Int)
def PrL.cells (p : PrL) : List Value := [.slice (some ⟨p.g1, p.o1, none⟩) p.x.length p.c1, .slice (some ⟨p.g2, p.o2, none⟩) p.y.length p.c2]
/-- These two lists were met. -/
def Met (w : World) (M : Nat) (ks : List Value) (x y : List Ex) : Prop := ∃ p : PrL, p.ok w M ∧ p.x = x ∧ p.y = y ∧ p.key ∈ ks
theorem Met.mono {w : World} {M : Nat} {ks ls : List Value} {x y : List Ex} (h : Met w M ks x y) (hs : ∀ k ∈ ks, k ∈ ls) : Met w M ls x y := by
  obtain ⟨p, h1, h2, h3, h4⟩ := h
  exact ⟨p, h1, h2, h3, hs _ h4⟩
theorem key_same {w : World} {M : Nat} {p q : PrL} (hp : p.ok w M) (hq : q.ok w M) (h : p.key = q.key) : p.x = q.x ∧ p.y = q.y := by
  have e := kv2_inj.1 h
  obtain ⟨e1, e2, e3, e4⟩ := e
  simp only [Addr.mk.injEq, and_true] at e1 e3
  have r1 := hp.one.2.2
  have r2 := hp.two.2.2
  rw [e1.1, e1.2] at r1
  rw [e3.1, e3.2] at r2
  exact ⟨RowIn.det _ _ _ _ (by omega) r1 hq.one.2.2, RowIn.det _ _ _ _ (by omega) r2 hq.two.2.2⟩
theorem Shal.mono {P Q : List Ex → List Ex → Prop} {x y : List Ex} (h : Shal P x y) (hs : ∀ u v, P u v → Q u v) : Shal Q x y :=
  ⟨h.1, fun i e f he hf => by
    obtain ⟨h1, h2, h3, h4, h5⟩ := h.2 i e f he hf
    exact ⟨h1, h2, h3, h4, fun h0 => hs _ _ (h5 h0)⟩⟩
/-- Between two lists. -/
structure SI (w : World) (M : Nat) (a b : Ex) (L : List PrL) (ks : List Value) : Prop where
  ok : ∀ p ∈ L, p.ok w M
  yes : a = b → ∀ p ∈ L, p.x = p.y
  root : (∃ p ∈ L, p.x = [a] ∧ p.y = [b]) ∨ Shal (Met w M ks) [a] [b]
  done : ∀ x y, Met w M ks x y → (∃ p ∈ L, p.x = x ∧ p.y = y) ∨ Shal (Met w M ks) x y
theorem SI.over {w : World} {M : Nat} {a b : Ex} {ks : List Value} (h : SI w M a b [] ks) : a = b := by
  have h1 : Shal (Met w M ks) [a] [b] := by
    rcases h.root with ⟨p, hp, -⟩ | h1
    · cases hp
    · exact h1
  have h2 : ∀ x y, Met w M ks x y → Shal (Met w M ks) x y := fun x y hm => by
    rcases h.done x y hm with ⟨p, hp, -⟩ | h3
    · cases hp
    · exact h3
  have := shal_same (P := fun x y => Met w M ks x y ∨ (x = [a] ∧ y = [b])) (fun x y hm => by
    rcases hm with hm | ⟨rfl, rfl⟩
    · exact (h2 x y hm).mono fun u v hu => .inl hu
    · exact h1.mono fun u v hu => .inl hu) (nodesL [a]) [a] [b] (Nat.le_refl _) (.inr ⟨rfl, rfl⟩)
  simpa using this
/-- Within a list: how many parts agree. -/
structure SJ (w : World) (M : Nat) (a b : Ex) (p : PrL) (i : Nat) (L : List PrL) (ks : List Value) : Prop where
  ok : ∀ q ∈ L, q.ok w M
  pok : p.ok w M
  yes : a = b → ∀ q ∈ L, q.x = q.y
  pyes : a = b → p.x = p.y
  ahead : ∀ (j : Nat) (e f : Ex), j < i → p.x[j]? = some e → p.y[j]? = some f → e.op = f.op ∧ e.num = f.num ∧ e.str = f.str ∧ e.kids.length = f.kids.length ∧ (0 < e.kids.length → Met w M ks e.kids f.kids)
  root : (∃ q ∈ L, q.x = [a] ∧ q.y = [b]) ∨ Shal (Met w M ks) [a] [b] ∨ (p.x = [a] ∧ p.y = [b])
  done : ∀ x y, Met w M ks x y → (∃ q ∈ L, q.x = x ∧ q.y = y) ∨ Shal (Met w M ks) x y ∨ (p.x = x ∧ p.y = y)
section
variable {w : World} {M : Nat} {a b : Ex} {p : PrL} {i : Nat} {L : List PrL} {ks : List Value}
theorem SJ.start (h : SI w M a b (L ++ [p]) ks) : SJ w M a b p 0 L ks := by
  refine ⟨fun q hq => h.ok q (by simp [hq]), h.ok p (by simp), fun e q hq => h.yes e q (by simp [hq]), fun e => h.yes e p (by simp), fun j _ _ hj => by omega, ?_, ?_⟩
  · rcases h.root with ⟨q, hq, h1⟩ | h1
    · rcases List.mem_append.1 hq with hq | hq
      · exact .inl ⟨q, hq, h1⟩
      · obtain rfl : q = p := by simpa using hq
        exact .inr (.inr h1)
    · exact .inr (.inl h1)
  · intro x y hm
    rcases h.done x y hm with ⟨q, hq, h1⟩ | h1
    · rcases List.mem_append.1 hq with hq | hq
      · exact .inl ⟨q, hq, h1⟩
      · obtain rfl : q = p := by simpa using hq
        exact .inr (.inr h1)
    · exact .inr (.inl h1)
theorem SJ.over (h : SJ w M a b p p.x.length L ks) : SI w M a b L ks := by
  have hp : Shal (Met w M ks) p.x p.y := ⟨h.pok.len.symm, fun j e f he hf => h.ahead j e f (List.getElem?_eq_some_iff.1 he).1 he hf⟩
  refine ⟨h.ok, h.yes, ?_, ?_⟩
  · rcases h.root with h1 | h1 | ⟨h1, h2⟩
    · exact .inl h1
    · exact .inr h1
    · rw [h1, h2] at hp; exact .inr hp
  · intro x y hm
    rcases h.done x y hm with h1 | h1 | ⟨h1, h2⟩
    · exact .inl h1
    · exact .inr h1
    · rw [h1, h2] at hp; exact .inr hp
/-- The next part agrees; its kids, if there are any, were met. -/
theorem SJ.next {e f : Ex} (h : SJ w M a b p i L ks) (he : p.x[i]? = some e) (hf : p.y[i]? = some f) (hs : e.op = f.op ∧ e.num = f.num ∧ e.str = f.str ∧ e.kids.length = f.kids.length) (hk : 0 < e.kids.length → Met w M ks e.kids f.kids) : SJ w M a b p (i + 1) L ks := by
  refine ⟨h.ok, h.pok, h.yes, h.pyes, fun j e2 f2 hj he2 hf2 => ?_, h.root, h.done⟩
  by_cases hji : j < i
  · exact h.ahead j e2 f2 hji he2 hf2
  · obtain rfl : j = i := by omega
    rw [he] at he2
    rw [hf] at hf2
    injection he2 with he2
    injection hf2 with hf2
    subst he2 hf2
    exact ⟨hs.1, hs.2.1, hs.2.2.1, hs.2.2.2, hk⟩
/-- The next part agrees; its kids are put on the list. -/
theorem SJ.push {e f : Ex} {q : PrL} (h : SJ w M a b p i L ks) (he : p.x[i]? = some e) (hf : p.y[i]? = some f) (hs : e.op = f.op ∧ e.num = f.num ∧ e.str = f.str ∧ e.kids.length = f.kids.length) (hq : q.ok w M) (h1 : q.x = e.kids) (h2 : q.y = f.kids) : SJ w M a b p (i + 1) (L ++ [q]) (ks ++ [q.key]) := by
  have up : ∀ x y, Met w M ks x y → Met w M (ks ++ [q.key]) x y := fun x y hm => hm.mono fun k hk => by simp [hk]
  have hm : Met w M (ks ++ [q.key]) e.kids f.kids := ⟨q, hq, h1, h2, by simp⟩
  refine ⟨fun r hr => ?_, h.pok, fun ab r hr => ?_, h.pyes, fun j e2 f2 hj he2 hf2 => ?_, ?_, fun x y hxy => ?_⟩
  · rcases List.mem_append.1 hr with hr | hr
    · exact h.ok r hr
    · obtain rfl : r = q := by simpa using hr
      exact hq
  · rcases List.mem_append.1 hr with hr | hr
    · exact h.yes ab r hr
    · obtain rfl : r = q := by simpa using hr
      have := h.pyes ab
      rw [← this, he] at hf
      injection hf with hf
      rw [h1, h2, hf]
  · by_cases hji : j < i
    · obtain ⟨u1, u2, u3, u4, u5⟩ := h.ahead j e2 f2 hji he2 hf2
      exact ⟨u1, u2, u3, u4, fun h0 => up _ _ (u5 h0)⟩
    · obtain rfl : j = i := by omega
      rw [he] at he2
      rw [hf] at hf2
      injection he2 with he2
      injection hf2 with hf2
      subst he2 hf2
      exact ⟨hs.1, hs.2.1, hs.2.2.1, hs.2.2.2, fun _ => hm⟩
  · rcases h.root with ⟨r, hr, h3⟩ | h3 | h3
    · exact .inl ⟨r, by simp [hr], h3⟩
    · exact .inr (.inl (h3.mono up))
    · exact .inr (.inr h3)
  · obtain ⟨r, hr, rx, ry, hk⟩ := hxy
    rcases List.mem_append.1 hk with hk | hk
    · rcases h.done x y ⟨r, hr, rx, ry, hk⟩ with ⟨s, hs1, hs2⟩ | h3 | h3
      · exact .inl ⟨s, by simp [hs1], hs2⟩
      · exact .inr (.inl (h3.mono up))
      · exact .inr (.inr h3)
    · have e1 := key_same hr hq (by simpa using hk)
      exact .inl ⟨q, by simp, by rw [← e1.1, rx], by rw [← e1.2, ry]⟩
/-- A part that does not agree. -/
theorem SJ.bad {e f : Ex} (h : SJ w M a b p i L ks) (he : p.x[i]? = some e) (hf : p.y[i]? = some f) (hs : ¬ (e.op = f.op ∧ e.num = f.num ∧ e.str = f.str ∧ e.kids.length = f.kids.length)) : a ≠ b := by
  intro ab
  have := h.pyes ab
  rw [← this, he] at hf
  injection hf with hf
  subst hf
  exact hs ⟨rfl, rfl, rfl, rfl⟩
end
end
/- The list of what is still to be compared, in memory. -/
section

/-- What lies in the list. -/
def stackV (L : List PrL) : List Value := L.flatMap PrL.cells
theorem stackV_snoc (L : List PrL) (p : PrL) : stackV (L ++ [p]) = stackV L ++ p.cells := by simp [stackV]
theorem stackV_len (L : List PrL) : (stackV L).length = L.length * 2 := by
  induction L with
  | nil => rfl
  | cons p L ih =>
    have : stackV (p :: L) = p.cells ++ stackV L := by simp [stackV]
    rw [this, List.length_append, ih, List.length_cons]
    simp [PrL.cells]; omega
/-- One less of an own list. -/
theorem own_pop {w : World} {B g n cap : Nat} {e : TypeId} {xs ys : List Value} (h : w.ownsRow B e 2 (.slice (some ⟨g, 0, none⟩) (n + 1) cap) (n + 1) (xs ++ ys)) (hx : xs.length = n * 2) : w.ownsRow B e 2 (.slice (some ⟨g, 0, none⟩) n cap) n xs := by
  refine ⟨hx, .inr ?_⟩
  rcases h.2 with ⟨hv, -⟩ | ⟨k, c, cur, hv, hbk, hk, hnc, hcm, hcs, ht⟩
  · cases hv
  · simp only [Value.slice.injEq, Option.some.injEq, Addr.mk.injEq, and_true, true_and] at hv
    obtain ⟨rfl, rfl⟩ := hv
    refine ⟨g, cap, cur, rfl, hbk, hk, by omega, hcm, hcs, ?_⟩
    have e1 : (cur.toList.take ((n + 1) * 2)).take (n * 2) = cur.toList.take (n * 2) := by rw [List.take_take]; congr 1; omega
    rw [← e1, ht, ← hx, List.take_left]
/-- The first list: of one pair. -/
theorem own_first (w : World) (x y : Value) (e : TypeId) : (w.alloc (.cells #[x, y] e)).ownsRow w.heap.size e 2 (.slice (some ⟨w.heap.size, 0, none⟩) 1 1) 1 [x, y] :=
  ⟨rfl, .inr ⟨w.heap.size, 1, #[x, y], rfl, Nat.le_refl _, alloc_at w _, Nat.le_refl _, by unfold maxLen; omega, rfl, rfl⟩⟩
/-- Rows that were there stay, though the map is written. -/
theorem nb_away {w w' : World} {M g : Nat} {es : Array MapEntry} {clock : Nat} (hM : w.heap[M]? = some (.map es clock)) (h : NB w g) (ha : Away M w w') : NB w' g := by
  have hne : g ≠ M := by
    rintro rfl
    obtain ⟨cs, t, h⟩ := h
    rw [hM] at h
    cases h
  exact h.same (ha.block g h.lt hne)
/-- While two are compared: the world, the list, the map. -/
structure SW (w1 : World) (M : Nat) (a b : Ex) (T : TypeId) (wr : World) (v : Value) (L : List PrL) (ks : List Value) : Prop where
  away : Away M w1 wr
  own : wr.ownsRow w1.heap.size T 2 v L.length (stackV L)
  map : ∃ es clock, wr.heap[M]? = some (.map es clock) ∧ es.toList.map (·.key) = ks ∧ ∀ e ∈ es.toList, e.val = .agg #[]
  keys : ∀ k ∈ ks, KeyOk w1 k
theorem SW.mapAt {w1 : World} {M : Nat} {a b : Ex} {T : TypeId} {wr : World} {v : Value} {L : List PrL} {ks : List Value} {es : Array MapEntry} {clock : Nat} (hM : w1.heap[M]? = some (.map es clock)) (h : SW w1 M a b T wr v L ks) : MapAt wr M ks := by
  obtain ⟨es, clock, h1, h2, h3⟩ := h.map
  exact ⟨es, clock, h1, h2, h3, fun k hk => (h.keys k hk).mono fun g hg => nb_away hM hg h.away⟩
end
/- parse.placeOf: where a list lies. -/
section
open Go.RowKit

set_option maxHeartbeats 1000000 in
set_option maxRecDepth 100000 in
theorem placeof_any (g o l cap : Nat) (w : World) (h0 : 0 < l) (hl : l ≤ 4611686018427387904) :
    Calls Tryz.prog 48 #[.slice (some ⟨g, o, none⟩) l cap] w fun e w' => e = .returned (.agg #[.pointer (some ⟨g, o, none⟩), .int .i64 (l : Int)]) ∧ Below w.heap.size w w' := by
  have hlz : (0 : Int) < (l : Int) := by omega
  have hb := below_alloc w (.cells #[.pointer (some ⟨g, o, none⟩), .int .i64 (l : Int)] 75)
  go_enter Tryz.func48, Tryz.ntmps48
  go_wp2_with fail
  exact bodyPost_ret (v := .agg #[.pointer (some ⟨g, o, none⟩), .int .i64 (l : Int)]) (by simp [results, Tryz.results48, go_sem]) rfl ⟨rfl, hb⟩
end
end Go.Proofs.YtlhofjhkiollgaaGreatDoor
