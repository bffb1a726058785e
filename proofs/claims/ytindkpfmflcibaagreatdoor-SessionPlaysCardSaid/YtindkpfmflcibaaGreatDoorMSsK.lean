/- A table of sessions in memory; its ids, in rising order. -/
import Derived.Test.YtindkpfmflcibaaGreatDoorMSsT
import Derived.Test.YtindkpfmflcibaaGreatDoorMSsB
import Derived.Test.YtindkpfmflcibaaGreatDoorSh15
import Derived.Shelf.SlIterI.Sorted
import Derived.Shelf.Slices.In.SortNone
import Derived.Shelf.Sort.Plain
import Derived.Shelf.Small.Wraps
import Derived.Sort.MapsRangeIn
namespace Go.Proofs.YtindkpfmflcibaaGreatDoor
open Go.RowKit Go.Maps Go.Sort Go.Shelf
set_option linter.unusedSimpArgs false

/-- A table: its block T, its map r. -/
structure Tab (w : World) (T r most : Nat) (L : List Se) : Prop where
  lt : T < w.heap.size
  ne : r ≠ T
  c0 : w.cell? ⟨T, 0, none⟩ = some (.int .i64 (most : Int))
  c1 : w.cell? ⟨T, 1, none⟩ = some (.map (some r))
  fz : ∀ i, w.frozen? ⟨T, i, none⟩ = false
  m : MapT w r L
  t : Tb most L
theorem Tab.later {w w' : World} {T r most : Nat} {L : List Se} (h : Tab w T r most L) (hb : Below w.heap.size w w') : Tab w' T r most L :=
  ⟨Nat.lt_of_lt_of_le h.lt hb.size, h.ne, (hb.cell (p := ⟨T, 0, none⟩) h.lt).trans h.c0, (hb.cell (p := ⟨T, 1, none⟩) h.lt).trans h.c1, fun i => (hb.frozen (p := ⟨T, i, none⟩) h.lt).trans (h.fz i), h.m.later hb, h.t⟩
/-- What is done with another table leaves it. -/
theorem Tab.other {w w' : World} {T r most a b : Nat} {L : List Se} (h : Tab w T r most L) (hb : But2 a b w w') (h1 : T ≠ a) (h2 : T ≠ b) (h3 : r ≠ a) (h4 : r ≠ b) : Tab w' T r most L :=
  ⟨Nat.lt_of_lt_of_le h.lt hb.size, h.ne, (hb.cell (p := ⟨T, 0, none⟩) h.lt h1 h2).trans h.c0, (hb.cell (p := ⟨T, 1, none⟩) h.lt h1 h2).trans h.c1, fun i => (hb.frozen (p := ⟨T, i, none⟩) h.lt h1 h2).trans (h.fz i), h.m.same (hb.block r h.m.lt h3 h4), h.t⟩
/-- Its map alone has turned. -/
theorem Tab.turn {w w' : World} {T r most a : Nat} {L M : List Se} (h : Tab w T r most L) (hb : But2 a r w w') (h1 : T ≠ a) (hm : MapT w' r M) (ht : Tb most M) : Tab w' T r most M := by
  have h2 : T ≠ r := h.ne.symm
  exact ⟨Nat.lt_of_lt_of_le h.lt hb.size, h.ne, (hb.cell (p := ⟨T, 0, none⟩) h.lt h1 h2).trans h.c0, (hb.cell (p := ⟨T, 1, none⟩) h.lt h1 h2).trans h.c1, fun i => (hb.frozen (p := ⟨T, i, none⟩) h.lt h1 h2).trans (h.fz i), hm, ht⟩
theorem Tb.nil {most : Nat} (h1 : 1 ≤ most) (h2 : most ≤ 64) : Tb most [] := ⟨h1, h2, Nat.zero_le _, .nil, by simp, by simp, by simp, by simp, by simp, by simp⟩
/-- Whatever entry reads as nothing. -/
def readN {H : Type} (_ : Value) : Option (DataW H × List MemPlace) := some (.lit (.bool true), [])
theorem foldr_perm {H : Type} : ∀ l : List (Lit × DataW H), (l.foldr DataW.insert []).Perm l
  | [] => .nil
  | x :: l => by
    have ins : ∀ (y : Lit × DataW H) (m : List (Lit × DataW H)), (DataW.insert y m).Perm (y :: m) := fun y m => by
      induction m with
      | nil => exact .refl _
      | cons z m ih =>
        unfold DataW.insert
        split
        · exact .refl _
        · exact (ih.cons z).trans (.swap y z m)
    exact (ins x _).trans ((foldr_perm l).cons x)
set_option maxRecDepth 100000 in
theorem MapT.owns {w : World} {r : Nat} {L : List Se} (h : MapT w r L) (hl : L.length ≤ 64) (hi : ∀ s ∈ L, 1 ≤ s.id ∧ s.id ≤ 1099511627776) :
    ∃ D : DataW Unit, w.ownsMap Tryz.prog 3 readN r L.length D ∧ (intKeys D).Perm (L.map Se.id) ∧ Maps.size D = L.length := by
  obtain ⟨es, clock, hb, hs, hp⟩ := h
  have hlen : es.size = L.length := by have := hp.length_eq; simpa using this
  have hrd : ∀ x ∈ es.toList, ∃ z : Int, x.key = .int .i64 z ∧ Go.WideElems.rd (H := Unit) Tryz.prog 3 readN x = some (.int .i64 z, .lit (.bool true)) ∧ Go.WideElems.rg (H := Unit) Tryz.prog 3 readN x = (.int .i64 z, .lit (.bool true)) := fun x hx => by
    have h1 : (x.key, x.val) ∈ L.map Se.kv := hp.subset (List.mem_map.2 ⟨x, hx, rfl⟩)
    obtain ⟨s, hsm, e⟩ := List.mem_map.1 h1
    have e1 : Value.int .i64 s.id = x.key := congrArg Prod.fst e
    have b := hi s hsm
    have hk : keyOf Tryz.prog 3 x.key = some (.int .i64 s.id) := by
      rw [← e1]
      exact Maps.keyOf_int_mk Tryz.underlying3 (by simp [Lit.wf, IntKind.min, IntKind.max, IntKind.signed, IntKind.bits]; omega)
    have hr : Go.WideElems.rd (H := Unit) Tryz.prog 3 readN x = some (.int .i64 s.id, .lit (.bool true)) := by
      simp [Go.WideElems.rd, hk, readN]
    exact ⟨s.id, e1.symm, hr, Go.WideElems.rg_of hr⟩
  refine ⟨.map ((es.toList.map (Go.WideElems.rg Tryz.prog 3 readN)).foldr DataW.insert []), ⟨es, clock, hb, ⟨by rw [hlen]; unfold maxLen; omega, hs, fun x hx => ?_⟩, by omega, rfl⟩, ?_, ?_⟩
  · obtain ⟨z, -, h2, -⟩ := hrd x hx
    exact ⟨_, h2⟩
  · show List.Perm (List.map (fun p : Lit × DataW Unit => Go.intOf p.1) _) _
    refine ((foldr_perm _).map _).trans ?_
    rw [List.map_map]
    have e1 : es.toList.map ((fun p : Lit × DataW Unit => Go.intOf p.1) ∘ Go.WideElems.rg Tryz.prog 3 readN) = (es.toList.map fun e => (e.key, e.val)).map fun p => match p.1 with | .int _ z => z | _ => 0 := by
      rw [List.map_map]
      refine List.map_congr_left fun x hx => ?_
      obtain ⟨z, h1, -, h3⟩ := hrd x hx
      show Go.intOf (Go.WideElems.rg Tryz.prog 3 readN x).1 = _
      rw [h3]
      simp only [Function.comp, h1]
      rfl
    rw [e1]
    refine (hp.map _).trans (List.Perm.of_eq ?_)
    rw [List.map_map]
    rfl
  · show List.length _ = _
    rw [(foldr_perm _).length_eq, List.length_map]
    simpa using hlen
theorem ids_sorted {L : List Se} (hu : L.Pairwise fun a b => a.id < b.id) {ss : List Int} (hp : ss.Perm (L.map Se.id)) : (ss.mergeSort fun x y => decide (x ≤ y)) = L.map Se.id := by
  refine (mergeSort_of_perm_i hp).trans (List.mergeSort_of_pairwise ?_)
  refine List.pairwise_map.2 (hu.imp fun {a b} h => ?_)
  exact decide_eq_true (by omega)
theorem sortsT (m : Nat) : AnyZI.SortsIn Tryz.prog Tryz.renZ Fence.wide m :=
  ⟨fun blk off cap ss W hH hblk hsz => callsIn_wide.2 (Any.slices_Sort_int Tryz.exact189 blk off cap ss W hH hblk hsz),
   fun p cap W => callsIn_wide.2 (Any.slices_Sort_int_none Tryz.exact189 p cap W)⟩
set_option maxHeartbeats 2000000 in
set_option maxRecDepth 100000 in
/-- IDs. -/
theorem stids_any (T r most : Nat) (L : List Se) (w : World) (h : Tab w T r most L) : Calls Tryz.prog 12 #[.pointer (some ⟨T, 0, none⟩)] w (Ss.OwnInts w (L.map Se.id)) := by
  refine (callsIn_wide (n := 6)).1 ?_
  obtain ⟨D, hown, hkeys, hsize⟩ := h.m.owns (Nat.le_trans h.t.len h.t.hi) h.t.id
  have hbl := hown.lt
  have hlen : L.length ≤ 64 := Nat.le_trans h.t.len h.t.hi
  have hup := Lib.hid h.t.up
  have hlt := h.lt
  have hc1 := h.c1
  have hseq : SeqGives Fence.wide 2 Tryz.prog 53 #[.pointer (some ⟨w.heap.size, 0, none⟩)] encZ (fun ss => ss.Perm (intKeys D)) (Maps.size D) (w.alloc (.cells #[.map (some r)] 42)) :=
    AnyZI.keys_gives (ρ := Tryz.renZ) Tryz.keys10 Fence.wide _ trivial rfl (by omega) w.heap.size r L.length D _ (by simp) (by simp) (hown.alloc _)
  have cK : ∀ mb W, CallsIn Fence.wide 5 Tryz.prog 33 #[.map mb] W fun e w' => e = .returned (.func (.func 53) #[] #[.pointer (some ⟨W.heap.size, 0, none⟩)]) ∧ w' = W.alloc (.cells #[.map mb] 42) := fun mb W => AnyZI.keys_in Tryz.keys7 Fence.wide 5 trivial rfl mb W
  have cS := AnyZI.sorted_in Tryz.keys6 Fence.wide 5 trivial trivial trivial trivial rfl (by omega) (sortsT _) (enters_of Tryz.func52 (by kernel_rfl) rfl) 53 #[.pointer (some ⟨w.heap.size, 0, none⟩)] trivial (enters_of Tryz.func53 (by kernel_rfl) rfl) _ _ (by rw [hsize]; unfold maxLen; omega) (by omega) _ hseq
  change CallsIn _ _ Tryz.prog 32 _ _ _ at cS
  clear hseq hown h
  have hfK : Fence.wide.fn 33 := trivial
  have hfS : Fence.wide.fn 32 := trivial
  refine callsIn_of_wp Tryz.func12 rfl trivial ?_ rfl
  simp only [Tryz.ntmps12, List.size_toArray, List.length_cons, List.length_nil, Nat.reduceAdd, Nat.reduceSub, Array.replicate_succ, Array.replicate_zero, List.push_toArray, List.append_toArray, List.nil_append, List.cons_append]
  gi_wp2_with (first
    | (gi_at_call 33; refine (cK _ _).mono ?_; rintro e w' ⟨rfl, rfl⟩)
    | (gi_at_call 32; refine cS.mono ?_; rintro e w' ⟨v, ss, rfl, hS, hrow, hnil, hb⟩))
  go_ret
  have e2 := ids_sorted hup.out (hS.trans hkeys)
  have e3 : ss.length = (L.map Se.id).length := (hS.trans hkeys).length_eq
  rw [e2, e3] at hrow
  have hb2 : Below w.heap.size w w' := ((Below.refl _ w).alloc (Nat.le_refl _) _).trans (hb.mono (by simp))
  exact Ss.own_ints (Ss.own_low hrow (by simp)) hb2
end Go.Proofs.YtindkpfmflcibaaGreatDoor
