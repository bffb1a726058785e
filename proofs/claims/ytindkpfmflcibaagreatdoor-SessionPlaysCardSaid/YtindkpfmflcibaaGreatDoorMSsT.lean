/- A map from numbers to sessions: what it holds, in whatever order. -/
import Derived.Test.YtindkpfmflcibaaGreatDoorMSsM
import Derived.Test.YtindkpfmflcibaaGreatDoorGB
import Derived.Laws.StructEq
import Derived.MapKept
import Derived.ChangeKeysEq
import Derived.WideKeyRuns
namespace Go.Proofs.YtindkpfmflcibaaGreatDoor
open Go.RowKit
set_option linter.unusedSimpArgs false

abbrev cs7 (u q : Int) (r : Rp) : Array Value := #[.int .i64 u, .int .i64 q, .int .i64 r.e, .int .i64 r.n, .int .i64 r.K, .int .i64 r.m, .string r.s]
abbrev V7 (u q : Int) (r : Rp) : Value := .agg (cs7 u q r)
def Se.v (s : Se) : Value := V7 s.used s.seq s.r
def Se.kv (s : Se) : Value × Value := (.int .i64 s.id, s.v)
/-- All but two blocks lie as they lay. -/
structure But2 (a b : Nat) (w w' : World) : Prop where
  os : w'.os = w.os
  tape : w'.tape = w.tape
  output : w'.output = w.output
  size : w.heap.size ≤ w'.heap.size
  block : ∀ k, k < w.heap.size → k ≠ a → k ≠ b → w'.heap[k]? = w.heap[k]?
theorem But2.refl (a b : Nat) (w : World) : But2 a b w w := ⟨rfl, rfl, rfl, Nat.le_refl _, fun _ _ _ _ => rfl⟩
theorem But2.trans {a b : Nat} {u v w : World} (h : But2 a b u v) (k : But2 a b v w) : But2 a b u w :=
  ⟨k.os.trans h.os, k.tape.trans h.tape, k.output.trans h.output, Nat.le_trans h.size k.size, fun i hi h1 h2 => (k.block i (Nat.lt_of_lt_of_le hi h.size) h1 h2).trans (h.block i hi h1 h2)⟩
theorem But2.of {a b : Nat} {w w' : World} (h : Below w.heap.size w w') : But2 a b w w' := ⟨h.os, h.tape, h.output, h.size, fun k hk _ _ => h.block k hk⟩
theorem But2.below {a b B : Nat} {w w' : World} (h : But2 a b w w') (h1 : B ≤ a) (h2 : B ≤ b) (hs : B ≤ w.heap.size) : Below B w w' := ⟨h.os, h.tape, h.output, h.size, fun k hk => h.block k (by omega) (by omega) (by omega)⟩
theorem But2.next {a b : Nat} {u w w' : World} (h : But2 a b u w) (hb : Below w.heap.size w w') : But2 a b u w' := h.trans (.of hb)
theorem But2.cell {a b : Nat} {w w' : World} (h : But2 a b w w') {p : Addr} (hp : p.block < w.heap.size) (h1 : p.block ≠ a) (h2 : p.block ≠ b) : w'.cell? p = w.cell? p := World.cell?_of_block (w := w) (h.block p.block hp h1 h2)
theorem But2.frozen {a b : Nat} {w w' : World} (h : But2 a b w w') {p : Addr} (hp : p.block < w.heap.size) (h1 : p.block ≠ a) (h2 : p.block ≠ b) : w'.frozen? p = w.frozen? p := World.frozen?_of_block (w := w) (h.block p.block hp h1 h2)
/-- What a map of sessions holds. -/
def MapT (w : World) (r : Nat) (L : List Se) : Prop := ∃ es clock, w.heap[r]? = some (.map es clock) ∧ Go.MapKept.Stamped es clock ∧ (es.toList.map fun e => (e.key, e.val)).Perm (L.map Se.kv)
theorem MapT.lt {w : World} {r : Nat} {L : List Se} (h : MapT w r L) : r < w.heap.size := by
  obtain ⟨es, clock, h, -⟩ := h
  exact (Array.getElem?_eq_some_iff.1 h).1
theorem MapT.same {w w' : World} {r : Nat} {L : List Se} (h : MapT w r L) (e : w'.heap[r]? = w.heap[r]?) : MapT w' r L := by
  obtain ⟨es, clock, h1, h2⟩ := h
  exact ⟨es, clock, e.trans h1, h2⟩
theorem MapT.later {w w' : World} {r : Nat} {L : List Se} (h : MapT w r L) (hb : Below w.heap.size w w') : MapT w' r L := h.same (hb.block r h.lt)
theorem MapT.new (w : World) : MapT (w.alloc (.map #[] 0)) w.heap.size [] := ⟨#[], 0, (Go.MapKept.heap_alloc w _).1, Go.MapKept.stamped_empty 0, by simp⟩
theorem MapT.perm {w : World} {r : Nat} {L M : List Se} (h : MapT w r L) (hp : L.Perm M) : MapT w r M := by
  obtain ⟨es, clock, h1, h2, h3⟩ := h
  exact ⟨es, clock, h1, h2, h3.trans (hp.map _)⟩
theorem kv_isKey {es : Array MapEntry} {L : List Se} (hp : (es.toList.map fun e => (e.key, e.val)).Perm (L.map Se.kv)) : ∀ x ∈ es.toList, Go.MapKept.IsKey (.int .i64) x.key := fun x hx => by
  have h1 : (x.key, x.val) ∈ L.map Se.kv := hp.subset (List.mem_map.2 ⟨x, hx, rfl⟩)
  obtain ⟨s, _, e⟩ := List.mem_map.1 h1
  have e1 : Value.int .i64 s.id = x.key := congrArg Prod.fst e
  rw [← e1]; rfl
/-- Where an id stands, if it does. -/
theorem find_kv {es : Array MapEntry} {L : List Se} (hu : L.Pairwise fun a b => a.id < b.id) (hp : (es.toList.map fun e => (e.key, e.val)).Perm (L.map Se.kv)) (i : Int) (w : World) :
    (findS i L = none ∧ (∀ x ∈ es.toList, x.key ≠ .int .i64 i) ∧ (Instr.findKey 3 (.int .i64 i) es.toList).run Tryz.prog w = .ok none w) ∨
    ∃ j e s, findS i L = some s ∧ es[j]? = some e ∧ e.key = .int .i64 i ∧ e.val = s.v ∧ (Instr.findKey 3 (.int .i64 i) es.toList).run Tryz.prog w = .ok (some (j, s.v)) w := by
  rcases Go.MapKept.findNow_spec (d := .int .i64) (k := .int .i64 i) rfl es.toList 0 (kv_isKey hp) with ⟨h1, h2⟩ | ⟨j, e, h1, h2, h3⟩
  · refine .inl ⟨findS_none.2 fun s hs e => ?_, h2, Go.MapKept.run_findKey Tryz.underlying3 h1⟩
    have h4 : s.kv ∈ es.toList.map fun e => (e.key, e.val) := hp.symm.subset (List.mem_map.2 ⟨s, hs, rfl⟩)
    obtain ⟨x, hx, e2⟩ := List.mem_map.1 h4
    have e3 : x.key = .int .i64 s.id := congrArg Prod.fst e2
    exact h2 x hx (by rw [e3, e])
  · have hm : e ∈ es.toList := List.mem_of_getElem? h2
    have h4 : (e.key, e.val) ∈ L.map Se.kv := hp.subset (List.mem_map.2 ⟨e, hm, rfl⟩)
    obtain ⟨s, hs, e2⟩ := List.mem_map.1 h4
    have e3 : Value.int .i64 s.id = e.key := congrArg Prod.fst e2
    have e4 : s.v = e.val := congrArg Prod.snd e2
    rw [h3] at e3
    have e5 : s.id = i := by injection e3
    rw [Nat.zero_add] at h1
    exact .inr ⟨j, e, s, findS_of hu hs e5, by simpa using h2, h3, e4.symm, by rw [e4]; exact Go.MapKept.run_findKey Tryz.underlying3 h1⟩
theorem check_int (b : Bool) (i : Int) (w : World) : (Instr.checkKey b 10000 3 (.int .i64 i)).run Tryz.prog w = .ok () w := by
  kernel_rfl
theorem zero_V7 : V7 0 0 Rp.zero = .agg #[.int .i64 0, .int .i64 0, .int .i64 0, .int .i64 0, .int .i64 0, .int .i64 0, .string ⟨#[]⟩] := rfl
/-- What stands under an id; none: zero. -/
def valS (i : Int) (L : List Se) : Value := match findS i L with
  | none => V7 0 0 Rp.zero
  | some s => s.v
theorem lookupT {i : Int} {w : World} {r : Nat} {L : List Se} (h : MapT w r L) (hu : L.Pairwise fun a b => a.id < b.id) :
    (Instr.lookup 42 (.map (some r)) (.int .i64 i) true).run Tryz.prog w = .ok (.tuple #[valS i L, .bool (findS i L).isSome]) w := by
  obtain ⟨es, clock, hb, hs, hp⟩ := h
  unfold valS
  rcases find_kv hu hp i w with ⟨h1, -, h2⟩ | ⟨j, e, s, h1, -, -, -, h2⟩
  · rw [h1]
    simp [Instr.lookup, run_underlying Tryz.underlying42, Go.MapKept.run_getObj_map hb, check_int, h2, Tryz.zeroValue68, zero_V7, Result.andThen]
  · rw [h1]
    simp [Instr.lookup, run_underlying Tryz.underlying42, Go.MapKept.run_getObj_map hb, check_int, h2, Result.andThen]
theorem lookupT1 {i : Int} {w : World} {r : Nat} {L : List Se} (h : MapT w r L) (hu : L.Pairwise fun a b => a.id < b.id) :
    (Instr.lookup 42 (.map (some r)) (.int .i64 i) false).run Tryz.prog w = .ok (valS i L) w := by
  obtain ⟨es, clock, hb, hs, hp⟩ := h
  unfold valS
  rcases find_kv hu hp i w with ⟨h1, -, h2⟩ | ⟨j, e, s, h1, -, -, -, h2⟩
  · rw [h1]
    simp [Instr.lookup, run_underlying Tryz.underlying42, Go.MapKept.run_getObj_map hb, check_int, h2, Tryz.zeroValue68, zero_V7, Result.andThen]
  · rw [h1]
    simp [Instr.lookup, run_underlying Tryz.underlying42, Go.MapKept.run_getObj_map hb, check_int, h2, Result.andThen]
theorem makeT (w : World) : (Instr.makeMap 42 none).run Tryz.prog w = .ok (.map (some w.heap.size)) (w.alloc (.map #[] 0)) := by
  simp [Instr.makeMap, Result.andThen]
/-- Of a block one object has been put. -/
theorem but_set {w : World} {a r : Nat} {es : Array MapEntry} {clock : Nat} (o : Obj) (hb : w.heap[r]? = some (.map es clock)) : But2 a r w { w with heap := w.heap.setIfInBounds r o } :=
  ⟨rfl, rfl, rfl, by simp, fun i _ _ hi => (Go.MapKept.heap_set hb).2 i hi⟩
/-- One is put that was not there. -/
theorem insT {w : World} {a r : Nat} {L : List Se} (x : Se) (h : MapT w r L) (hu : L.Pairwise fun a b => a.id < b.id) (hn : ∀ s ∈ L, s.id ≠ x.id) : ∃ w',
    (Instr.mapUpdate 42 (.map (some r)) (.int .i64 x.id) x.v).run Tryz.prog w = .ok () w' ∧ But2 a r w w' ∧ MapT w' r (insS x L) := by
  obtain ⟨es, clock, hb, hs, hp⟩ := h
  rcases find_kv hu hp x.id w with ⟨h1, h3, h2⟩ | ⟨j, e, s, h1, -, -, -, -⟩
  · refine ⟨{ w with heap := w.heap.setIfInBounds r (.map (es.push { key := .int .i64 x.id, val := x.v, born := clock }) (clock + 1)) }, ?_, but_set _ hb, _, _, (Go.MapKept.heap_set hb).1, Go.MapKept.stamped_push hs h3, ?_⟩
    · simp [Instr.mapUpdate, run_underlying Tryz.underlying42, Go.MapKept.run_getObj_map hb, check_int, h2, Go.MapKept.run_setObj_map _ hb, Result.andThen]
    · rw [Array.toList_push, List.map_append]
      refine (List.perm_append_comm).trans ?_
      refine List.Perm.trans ?_ ((insS_perm x L).symm.map Se.kv)
      exact hp.cons x.kv
  · obtain ⟨hm, e2⟩ := findS_mem h1
    exact absurd e2 (hn s hm)
/-- What stands under an id is put anew. -/
theorem updT {w : World} {a r : Nat} {L : List Se} {i : Int} {s : Se} (f : Se → Se) (h : MapT w r L) (hu : L.Pairwise fun a b => a.id < b.id) (hf : findS i L = some s) (hi : ∀ s, (f s).id = s.id) : ∃ w',
    (Instr.mapUpdate 42 (.map (some r)) (.int .i64 i) (f s).v).run Tryz.prog w = .ok () w' ∧ But2 a r w w' ∧ MapT w' r (updS i f L) := by
  obtain ⟨es, clock, hb, hs, hp⟩ := h
  have hks := kv_isKey hp
  rcases find_kv hu hp i w with ⟨h1, -, -⟩ | ⟨j, e, s', h1, h2, h3, h4, h5⟩
  · rw [h1] at hf; cases hf
  · obtain rfl : s' = s := by rw [h1] at hf; exact Option.some.inj hf
    have hkey : ∀ e', es[j]? = some e' → ({ e' with key := .int .i64 i, val := (f s').v } : MapEntry).key = e'.key := fun e' he' => by rw [h2] at he'; cases he'; exact h3.symm
    refine ⟨{ w with heap := w.heap.setIfInBounds r (.map (es.modify j fun e' => { e' with key := .int .i64 i, val := (f s').v }) clock) }, ?_, but_set _ hb, _, _, (Go.MapKept.heap_set hb).1, Go.MapKept.stamped_modify hs _ _ (fun _ _ => rfl) (fun e' _ he' => hkey e' he'), ?_⟩
    · simp [Instr.mapUpdate, run_underlying Tryz.underlying42, Go.MapKept.run_getObj_map hb, check_int, h5, h2, h3, Go.MapKept.run_keyThatStays (d := .int .i64) (k := .int .i64 i) rfl, Go.MapKept.run_setObj_map _ hb, Result.andThen]
    · classical
      let g : Value × Value → Value × Value := fun p => if p.1 = .int .i64 i then (p.1, (f s').v) else p
      have hg := hp.map g
      have e1 : (L.map Se.kv).map g = (updS i f L).map Se.kv := by
        unfold updS
        rw [List.map_map, List.map_map]
        refine List.map_congr_left fun t ht => ?_
        show (if (Value.int .i64 t.id) = .int .i64 i then (Value.int .i64 t.id, (f s').v) else t.kv) = Se.kv (if t.id = i then f t else t)
        by_cases he : t.id = i
        · have : findS i L = some t := findS_of hu ht he
          rw [h1] at this
          obtain rfl := Option.some.inj this
          rw [if_pos (by rw [he]), if_pos he]
          unfold Se.kv
          rw [hi]
        · rw [if_neg (fun h => he (by injection h)), if_neg he]
      rw [e1] at hg
      refine List.Perm.trans (List.Perm.of_eq ?_) hg
      refine List.ext_getElem? fun t => ?_
      rw [List.map_map, List.getElem?_map, List.getElem?_map, Array.getElem?_toList, Array.getElem?_toList, Array.getElem?_modify]
      by_cases hjt : j = t
      · subst hjt
        rw [if_pos rfl, h2]
        show some (Value.int .i64 i, (f s').v) = some (if e.key = .int .i64 i then (e.key, (f s').v) else (e.key, e.val))
        rw [if_pos h3, h3]
      · rw [if_neg hjt]
        cases hx : es[t]? with
        | none => rfl
        | some y =>
          have hne : y.key ≠ .int .i64 i := fun hy => by
            obtain ⟨htl, hyt⟩ := Array.getElem?_eq_some_iff.1 hx
            obtain ⟨hjl, hyj⟩ := Array.getElem?_eq_some_iff.1 h2
            have hnd := hs.2.2
            have := (List.getElem_inj (xs := es.toList.map (·.key)) (i := j) (j := t) (h₀ := by simpa using hjl) (h₁ := by simpa using htl) hnd).1 (by simp [hyj, hyt, h3, hy])
            exact hjt this
          show some (y.key, y.val) = some (if y.key = .int .i64 i then (y.key, (f s').v) else (y.key, y.val))
          rw [if_neg hne]
/-- One goes. -/
theorem delT {w : World} {a r : Nat} {L : List Se} {i : Int} {ty : TypeId} (h : MapT w r L) (hu : L.Pairwise fun a b => a.id < b.id) : ∃ w',
    (Builtin.delete_ #[42, 3] ty #[.map (some r), .int .i64 i]).run Tryz.prog w = .ok (.tuple #[]) w' ∧ But2 a r w w' ∧ MapT w' r (remS i L) := by
  obtain ⟨es, clock, hb, hs, hp⟩ := h
  have hks := kv_isKey hp
  rcases find_kv hu hp i w with ⟨h1, h3, h2⟩ | ⟨j, e, s, h1, h2, h3, h4, h5⟩
  · refine ⟨{ w with heap := w.heap.setIfInBounds r (.map es clock) }, ?_, but_set _ hb, _, _, (Go.MapKept.heap_set hb).1, hs, ?_⟩
    · simp [Builtin.delete_, run_underlying Tryz.underlying42, Go.MapKept.run_getObj_map hb, check_int, h2, Go.MapKept.run_setObj_map _ hb, Result.andThen]
    · rw [remS_none (findS_none.1 h1)]; exact hp
  · refine ⟨{ w with heap := w.heap.setIfInBounds r (.map (es.eraseIdxIfInBounds j) clock) }, ?_, but_set _ hb, _, _, (Go.MapKept.heap_set hb).1, Go.MapKept.stamped_erase hs _, ?_⟩
    · simp [Builtin.delete_, run_underlying Tryz.underlying42, Go.MapKept.run_getObj_map hb, check_int, h5, Go.MapKept.run_setObj_map _ hb, Result.andThen]
    · obtain ⟨hjl, hej⟩ := Array.getElem?_eq_some_iff.1 h2
      have e0 : (es.eraseIdxIfInBounds j).toList = es.toList.eraseIdx j := by
        unfold Array.eraseIdxIfInBounds
        rw [dif_pos hjl, Array.toList_eraseIdx]
      have e1 : es.toList = es.toList.take j ++ e :: es.toList.drop (j + 1) := by
        have : es.toList[j]'(by simpa using hjl) = e := by simpa using hej
        rw [← this, ← List.drop_eq_getElem_cons (by simpa using hjl), List.take_append_drop]
      have e2 : es.toList.eraseIdx j = es.toList.take j ++ es.toList.drop (j + 1) := List.eraseIdx_eq_take_drop_succ _ _
      obtain ⟨hm, hid⟩ := findS_mem h1
      obtain ⟨k, hk, rfl⟩ := List.getElem_of_mem hm
      obtain ⟨l0, l1, l2⟩ := up_split hu hk
      have l3 := remS_at hu hk
      rw [e0, e2]
      rw [e1, l0] at hp
      rw [← hid, l3]
      simp only [List.map_append, List.map_cons] at hp ⊢
      have p1 := (List.perm_middle.symm.trans hp).trans List.perm_middle
      have ek : (e.key, e.val) = L[k].kv := by rw [h3, h4]; unfold Se.kv; rw [hid]
      rw [ek] at p1
      exact p1.cons_inv
end Go.Proofs.YtindkpfmflcibaaGreatDoor
