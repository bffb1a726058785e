/- A map whose key is where one list lies, in memory that the call itself has made: there one place is told from another. -/
import Derived.Test.YtbbblmedoagncaaGreatDoorGS
namespace Go.Proofs.YtbbblmedoagncaaGreatDoor
open Go.RowKit
set_option linter.unusedSimpArgs false

abbrev PKey := Nat × Nat × Nat
abbrev kv1 (p : PKey) : Value := .agg #[.pointer (some ⟨p.1, p.2.1, none⟩), .int .i64 (p.2.2 : Int)]
set_option maxRecDepth 1000000 in
theorem check_key1 (b : Bool) (p : PKey) (w : World) : (Instr.checkKey b 10000 63 (kv1 p)).run Tryz.prog w = .ok () w := by
  kernel_rfl
theorem addr_exact (g1 o1 g2 o2 : Nat) (w : World) (ha : NB w g1) (hb : NB w g2) : (sameAddr ⟨g1, o1, none⟩ ⟨g2, o2, none⟩).run Tryz.prog w = .ok (decide (g1 = g2 ∧ o1 = o2)) w := by
  obtain ⟨ca, ta, ha⟩ := ha
  obtain ⟨cb, tb, hb⟩ := hb
  by_cases hg : g1 = g2
  · subst hg
    by_cases ho : o1 = o2
    · subst ho
      simp [sameAddr]
    · simp [sameAddr, ho]
  · simp [sameAddr, hg, World.frozen?, noView, viewAt, ha, hb, mayBeOne, stringish, World.shape?]
theorem ptr_exact (d : Nat) (g1 o1 g2 o2 : Nat) (w : World) (ha : NB w g1) (hb : NB w g2) :
    (Op.equalIn (d + 1) 61 (.pointer (some ⟨g1, o1, none⟩)) (.pointer (some ⟨g2, o2, none⟩))).run Tryz.prog w = .ok (decide (g1 = g2 ∧ o1 = o2)) w := by
  simp [Op.equalIn, run_underlying Tryz.underlying61, Tryz.sizeOf24, addr_exact g1 o1 g2 o2 w ha hb]
theorem place_exact (p q : PKey) (w : World) (ha : NB w p.1) (hb : NB w q.1) : (Op.equal 63 (kv1 p) (kv1 q)).run Tryz.prog w = .ok (decide (p = q)) w := by
  obtain ⟨g1, o1, k⟩ := p
  obtain ⟨g2, o2, l⟩ := q
  dsimp only at ha hb
  have h := ptr_exact 9998 g1 o1 g2 o2 w ha hb
  unfold Op.equal Op.maxDepth
  rw [run_equalIn_agg w 9999 63 _ _ (by kernel_rfl) (by kernel_rfl)]
  have e : decide ((g1, o1, k) = (g2, o2, l)) = (decide (g1 = g2 ∧ o1 = o2) && decide (k = l)) := by
    simp only [Prod.mk.injEq, Bool.decide_and, Bool.and_assoc]
  rw [e]
  by_cases hc : g1 = g2 ∧ o1 = o2
  · rw [decide_eq_true hc] at h ⊢
    by_cases hk : k = l
    · subst hk
      simp [Program.fieldsOf, Tryz.underlying63, Op.eqFields, part, h, run_equalIn_int _ _ _ _ _ _ _ Tryz.underlying3, Tryz.isAgg3, Tryz.isAgg61]
    · have hk2 : ¬ ((k : Int) = (l : Int)) := by omega
      simp [Program.fieldsOf, Tryz.underlying63, Op.eqFields, part, h, run_equalIn_int _ _ _ _ _ _ _ Tryz.underlying3, Tryz.isAgg3, Tryz.isAgg61, hk, hk2]
  · rw [decide_eq_false hc] at h ⊢
    simp [Program.fieldsOf, Tryz.underlying63, Op.eqFields, part, h, Tryz.isAgg61]
theorem find_asking1 {p : PKey} {w : World} (hp : NB w p.1) : ∀ (es : List MapEntry) (K : List PKey) (i : Nat), es.map (·.key) = K.map kv1 → (∀ q ∈ K, NB w q.1) →
    ((Instr.findAsking 63 (kv1 p) es i).run Tryz.prog w = .ok none w ∧ p ∉ K) ∨ ∃ j e, (Instr.findAsking 63 (kv1 p) es i).run Tryz.prog w = .ok (some (i + j, e.val)) w ∧ es[j]? = some e ∧ p ∈ K
  | [], [], i, _, _ => .inl ⟨by simp [Instr.findAsking], by simp⟩
  | [], q :: K, i, h, _ => by simp at h
  | e :: es, [], i, h, _ => by simp at h
  | e :: es, q :: K, i, h, hK => by
    simp only [List.map_cons, List.cons.injEq] at h
    obtain ⟨h1, h2⟩ := h
    have hr := place_exact p q w hp (hK q (.head _))
    rw [← h1] at hr
    by_cases hpq : p = q
    · rw [decide_eq_true hpq] at hr
      exact .inr ⟨0, e, by simp [Instr.findAsking, hr], rfl, by rw [hpq]; exact .head _⟩
    · rw [decide_eq_false hpq] at hr
      rcases find_asking1 hp es K (i + 1) h2 (fun x hx => hK x (.tail _ hx)) with ⟨a, b⟩ | ⟨j, e', a, b, c⟩
      · exact .inl ⟨by simp [Instr.findAsking, hr, a], by simp [hpq, b]⟩
      · exact .inr ⟨j + 1, e', by simp [Instr.findAsking, hr, a]; omega, by simpa using b, .tail _ c⟩
/-- The map of places: what it holds. -/
def MapR (w : World) (r : Nat) (K : List PKey) : Prop := ∃ es clock, w.heap[r]? = some (.map es clock) ∧ (∀ e ∈ es.toList, e.val = .agg #[]) ∧ es.toList.map (·.key) = K.map kv1
theorem MapR.lt {w : World} {r : Nat} {K : List PKey} (h : MapR w r K) : r < w.heap.size := by
  obtain ⟨es, clock, h, -⟩ := h
  exact (Array.getElem?_eq_some_iff.1 h).1
theorem MapR.ne {w : World} {r : Nat} {K : List PKey} (h : MapR w r K) : ∀ g, NB w g → g ≠ r := by
  obtain ⟨es, clock, h, -⟩ := h
  rintro g ⟨cs, t, hg⟩ rfl
  rw [h] at hg
  cases hg
theorem MapR.same {w w' : World} {r : Nat} {K : List PKey} (h : MapR w r K) (e : w'.heap[r]? = w.heap[r]?) : MapR w' r K := by
  obtain ⟨es, clock, h1, h2⟩ := h
  exact ⟨es, clock, e.trans h1, h2⟩
theorem MapR.new (w : World) : MapR (w.alloc (.map #[] 0)) w.heap.size [] := ⟨#[], 0, alloc_at w _, by simp, by simp⟩
theorem make_map1 (w : World) : (Instr.makeMap 59 none).run Tryz.prog w = .ok (.map (some w.heap.size)) (w.alloc (.map #[] 0)) := by
  simp [Instr.makeMap, Result.andThen]
theorem lookup1 {p : PKey} {w : World} {r : Nat} {K : List PKey} (hp : NB w p.1) (h : MapR w r K) (hnb : ∀ q ∈ K, NB w q.1) :
    (Instr.lookup 59 (.map (some r)) (kv1 p) true).run Tryz.prog w = .ok (.tuple #[.agg #[], .bool (decide (p ∈ K))]) w := by
  obtain ⟨es, clock, hb, hvs, hks⟩ := h
  have hf : (Instr.findKey 63 (kv1 p) es.toList).run Tryz.prog w = (Instr.findAsking 63 (kv1 p) es.toList 0).run Tryz.prog w := by
    rw [run_findKey_eq w (by rw [Tryz.underlying63])]
  rcases find_asking1 hp es.toList K 0 hks hnb with ⟨h1, h2⟩ | ⟨j, e, h1, h2, h3⟩
  · rw [decide_eq_false h2]
    simp [Instr.lookup, run_underlying Tryz.underlying59, get_map hb, check_key1, hf, h1, Tryz.zeroValue65]
  · rw [decide_eq_true h3]
    have hev := hvs e (List.mem_of_getElem? h2)
    simp [Instr.lookup, run_underlying Tryz.underlying59, get_map hb, check_key1, hf, h1, hev]
theorem put1 {p : PKey} {w : World} {r : Nat} {K : List PKey} (hp : NB w p.1) (h : MapR w r K) (hnb : ∀ q ∈ K, NB w q.1) (hn : p ∉ K) : ∃ w',
    (Instr.mapUpdate 59 (.map (some r)) (kv1 p) (.agg #[])).run Tryz.prog w = .ok () w' ∧ Away r w w' ∧ MapR w' r (K ++ [p]) := by
  obtain ⟨es, clock, hb, hvs, hks⟩ := h
  have hf : (Instr.findKey 63 (kv1 p) es.toList).run Tryz.prog w = (Instr.findAsking 63 (kv1 p) es.toList 0).run Tryz.prog w := by
    rw [run_findKey_eq w (by rw [Tryz.underlying63])]
  rcases find_asking1 hp es.toList K 0 hks hnb with ⟨h1, h2⟩ | ⟨j, e, h1, h2, h3⟩
  · have hA : Away r w { w with heap := w.heap.setIfInBounds r (.map (es.push { key := kv1 p, val := .agg #[], born := clock }) (clock + 1)) } :=
      ⟨rfl, rfl, rfl, by simp, fun i _ hi => (Go.MapKept.heap_set hb).2 i hi⟩
    refine ⟨{ w with heap := w.heap.setIfInBounds r (.map (es.push { key := kv1 p, val := .agg #[], born := clock }) (clock + 1)) }, ?_, hA, _, _, (Go.MapKept.heap_set hb).1, fun e he => ?_, ?_⟩
    · simp [Instr.mapUpdate, run_underlying Tryz.underlying59, get_map hb, check_key1, hf, h1, set_map _ hb]
    · rw [Array.toList_push, List.mem_append] at he
      rcases he with he | he
      · exact hvs e he
      · rw [List.mem_singleton.1 he]
    · rw [Array.toList_push, List.map_append, List.map_append, hks]; rfl
  · exact absurd h3 hn
end Go.Proofs.YtbbblmedoagncaaGreatDoor
