/- Contract of frame.Ends: the first place where there is no frame, and whether it is the end. -/
import Derived.Test.YtpkbjiakjofcnaaFSteps
import Derived.Sort.QuietIn
import Derived.Deep.QuietTactic
import Derived.BigQuiet
namespace Go.Proofs.Ytpkbjiakjofcnaa
open Go.RowKit Go.Shelf

attribute [local go_sem] Oper.semAt_some

def wholeB (L : List UInt8) (bs : List (List UInt8)) : Bool := decide (pos bs bs.length = L.length)
theorem pos_beyond {bs : List (List UInt8)} {i : Nat} (h : ¬ i < bs.length) : pos bs i = pos bs bs.length := by
  unfold pos; rw [List.take_of_length_le (by omega), List.take_of_length_le (Nat.le_refl _)]
theorem fv_any {L R : List UInt8} {bs : List (List UInt8)} (h : Frs L bs R) (A : Option Addr) (ca i : Nat) :
    ∃ a n c d er, fvOf A L ca (pos bs i) = foundV a n c d er ∧ ((i < bs.length ∧ er = 0) ∨ (¬ i < bs.length ∧ (er == 0) = false ∧ Hid ((er == 3) = wholeB L bs))) := by
  by_cases hlt : i < bs.length
  · have hy := h.yes hlt
    exact ⟨_, _, _, gN L (pos bs i), 0, by unfold fvOf; rw [hy], .inl ⟨hlt, rfl⟩⟩
  · rw [pos_beyond hlt]
    have hy := h.no
    have he : gE L (pos bs bs.length) = if pos bs bs.length = L.length then 3 else 4 := by unfold gE; rw [hy]
    refine ⟨none, 0, 0, 0, gE L (pos bs bs.length), by unfold fvOf; rw [hy], .inr ⟨hlt, ?_, ?_⟩⟩
    · rw [he]; split <;> rfl
    · show _ = _
      unfold wholeB
      rw [he]
      by_cases hw : pos bs bs.length = L.length
      · rw [if_pos hw]; simp [hw]
      · rw [if_neg hw]; simp [hw]

/-- A finding lies in block B. -/
def Boxed3 (W : World) (B : Nat) (v : Value) : Prop := ∃ a n c d er, v = foundV a n c d er ∧ W.heap[B]? = some (foundO a n c d er)
theorem Boxed3.kept {W W' : World} {row : Option Nat} {B : Nat} {v : Value} (h : Boxed3 W B v) (hg : W.grownBy W' row) (hr : ∀ r, row = some r → ∃ o : Obj, W.heap[r]? = some o ∧ o.isCells = false) : Boxed3 W' B v := by
  obtain ⟨a, n, c, d, er, e, hb⟩ := h
  refine ⟨a, n, c, d, er, e, (hg.block B (Array.getElem?_eq_some_iff.1 hb).1 ?_).trans hb⟩
  intro e1
  obtain ⟨o, ho, hc⟩ := hr B e1.symm
  rw [hb] at ho
  injection ho with ho
  subst ho
  simp [Obj.isCells] at hc

theorem keepF_new {n₀ : Nat} {W W' : World} (hn : n₀ ≤ W.heap.size) (hb : Below W.heap.size W W') : KeepF n₀ W W' :=
  ⟨hb.mono hn, fun k _ _ hk _ => (hb.block k (Array.getElem?_eq_some_iff.1 hk).1).trans hk⟩
theorem keepF_refl (n₀ : Nat) (W : World) : KeepF n₀ W W := ⟨Below.refl _ _, fun _ _ _ h _ => h⟩
/-- A store into a box of another kind. -/
theorem keepF_set {n₀ B : Nat} {W : World} {t : TypeId} {v : Value} (u : Value) (h : Boxed W B t v) (hB : n₀ ≤ B) (ht : t ≠ 22 ∧ t ≠ 56) : KeepF n₀ W (W.setCell ⟨B, 0, none⟩ u) := by
  refine ⟨(Below.refl _ _).setCell hB _, fun k cs t' hk ht' => ?_⟩
  have hne : k ≠ B := by
    rintro rfl
    have h2 : W.heap[k]? = some (.cells #[v] t) := h
    rw [h2] at hk
    injection hk with hk
    injection hk with _ hk
    subst hk
    rcases ht' with e | e
    · exact ht.1 e
    · exact ht.2 e
  exact (Below.heap_setCell _ _ _ _ hne).trans hk
theorem fv_er {L R : List UInt8} {bs : List (List UInt8)} (h : Frs L bs R) (A : Option Addr) {ca i n c : Nat} {a : Option Addr} {d er : Int} (e : fvOf A L ca (pos bs i) = foundV a n c d er) :
    (i < bs.length ∧ er = 0) ∨ (¬ i < bs.length ∧ (er == 0) = false ∧ Hid ((er == 3) = wholeB L bs)) := by
  obtain ⟨a', n', c', d', er', e', hw⟩ := fv_any h A ca i
  rw [e] at e'
  injection e' with e'
  have h2 := congrArg Array.toList e'
  simp only [List.cons.injEq, and_true, Value.int.injEq, true_and] at h2
  rw [h2.2.2]
  exact hw

set_option maxRecDepth 100000 in
set_option maxHeartbeats 4000000 in
theorem ends_any (A : Option Addr) (L R : List UInt8) (bs : List (List UInt8)) (ca : Nat) (w : World) (hF : Frs L bs R) (hl : L.length ≤ 140737488351232) (hlc : L.length ≤ ca) (hB : Bs w A L) :
    Calls Try.prog 17 #[.slice A L.length ca] w fun e w' => e = .returned (.tuple #[.int .i64 (pos bs bs.length : Int), .bool (wholeB L bs)]) ∧ Below w.heap.size w w' := by
  refine (callsIn_wide (n := 5)).1 ?_
  refine callsIn_of_wp_marks Try.func17 rfl trivial ?_ rfl
  simp only [Try.ntmps17, List.size_toArray, List.length_cons, List.length_nil, Nat.reduceAdd, Nat.reduceSub, Array.replicate_succ, Array.replicate_zero, List.push_toArray, List.append_toArray, List.nil_append, List.cons_append]
  gi_wp2_with fail
  refine wpIn_wide.2 ?_
  refine wp_scope_straight ?_
  refine (wpIn_wide (n := 5)).1 ?_
  gi_wp2_with fail
  refine wpIn_label ?_
  gi_wp2_with (refine ⟨trivial, ?_⟩; gi_at_call 29; refine (callsIn_wide.2 (steps_any A L.length ca _)).mono ?_; rintro e w' ⟨rfl, rfl⟩)
  have bP := ((Boxed.new w 3 (.int .i64 0)).alloc (.cells #[.bool false] 4)).alloc (.cells #[.slice A L.length ca] 22)
  have bE := (Boxed.new (w.alloc (.cells #[.int .i64 0] 3)) 4 (.bool false)).alloc (.cells #[.slice A L.length ca] 22)
  have bB := Boxed.new ((w.alloc (.cells #[.int .i64 0] 3)).alloc (.cells #[.bool false] 4)) 22 (.slice A L.length ca)
  simp only [World.size_alloc] at bE bB
  have hB0 : Below w.heap.size w (((w.alloc (.cells #[.int .i64 0] 3)).alloc (.cells #[.bool false] 4)).alloc (.cells #[.slice A L.length ca] 22)) := (((Below.refl _ w).alloc (Nat.le_refl _) _).alloc (by simp) _).alloc (by simp; omega) _
  have hsz : (((w.alloc (.cells #[.int .i64 0] 3)).alloc (.cells #[.bool false] 4)).alloc (.cells #[.slice A L.length ca] 22)).heap.size = w.heap.size + 3 := by simp
  obtain ⟨W0, hW0⟩ : ∃ W0, ((w.alloc (.cells #[.int .i64 0] 3)).alloc (.cells #[.bool false] 4)).alloc (.cells #[.slice A L.length ca] 22) = W0 := ⟨_, rfl⟩
  rw [hW0] at bB bE bP hB0 hsz ⊢
  clear hW0
  have hHB : HasB w.heap.size (w.heap.size + 1 + 1) A L ca W0 := ⟨bB, (BsU.of hB (Nat.le_refl _)).below hB0, by omega⟩
  refine wpIn_rangeFunc_ownH rfl (by omega) (gf := 40) (lb := #[.pointer (some ⟨w.heap.size + 1 + 1, 0, none⟩)]) rfl trivial (enters_of Try.func40 (by kernel_rfl) rfl)
    (steps_stops (5 - 1) (by omega) (w.heap.size + 1 + 1) w.heap.size ca A L R bs hF hl hlc W0 hHB) keepF_t (keepF_b (by omega)) (Below.refl _ _) (fun _ => rfl)
    (fun pre W => ((∀ i ∈ pre, i < bs.length) ∧ Boxed W w.heap.size 3 (.int .i64 0) ∧ Boxed W (w.heap.size + 1) 4 (.bool false)) ∧ Below w.heap.size w W)
    (fun c pre W => (c = .exit 0 ∧ (∃ x ∈ pre, ¬ x < bs.length) ∧ Boxed W w.heap.size 3 (.int .i64 (pos bs bs.length : Int)) ∧ Boxed W (w.heap.size + 1) 4 (.bool (wholeB L bs))) ∧ Below w.heap.size w W)
    (OwnFrom.and (OwnFrom.and (ownFrom_pure _ _) (OwnFrom.and (Own.from (boxed_own _ _ _) _) (Own.from (boxed_own _ _ _) _))) (ownFrom_below (Nat.le_refl _) (by omega)))
    (fun c => OwnFrom.and (OwnFrom.and (ownFrom_pure _ _) (OwnFrom.and (ownFrom_pure _ _) (OwnFrom.and (Own.from (boxed_own _ _ _) _) (Own.from (boxed_own _ _ _) _)))) (ownFrom_below (Nat.le_refl _) (by omega)))
    ⟨⟨by simp, bP, bE⟩, hB0⟩
    (fun x a' W => ∃ Bx u8 u9 u10 u11, w.heap.size + 1 < Bx ∧ Boxed3 W Bx (fvOf A L ca (pos bs x)) ∧ a' = { tmps := #[.slice A L.length ca, undef, .int .i64 0, .bool false, .pointer (some ⟨w.heap.size, 0, none⟩), .pointer (some ⟨w.heap.size + 1, 0, none⟩), .int .i64 (pos bs x : Int), .pointer (some ⟨Bx, 0, none⟩), u8, u9, u10, u11, undef, undef, undef, undef, undef, undef, undef, undef, undef, undef], defers := [] })
    (fun x a' _ X Y row hs hg hr => by obtain ⟨Bx, u8, u9, u10, u11, h1, h2, h3⟩ := hs; exact ⟨Bx, u8, u9, u10, u11, h1, h2.kept hg (fun r e => (hr r e).2), h3⟩)
    ?assign ?body ?done ?stop
  case assign =>
    rintro l pre x W K ⟨⟨hp, bP1, bE1⟩, hB1⟩ hK
    obtain ⟨a, n, c, d, er, e, _⟩ := fv_any hF A ca x
    dsimp only [encsF]
    rw [e]
    gi_wp2
    exact hK _ _ ((KeepsOthers.alloc _ _).from _) (keepF_new hB1.size ((Below.refl _ W).alloc (Nat.le_refl _) _)) ⟨⟨hp, bP1.alloc _, bE1.alloc _⟩, hB1.alloc hB1.size _⟩ ⟨W.heap.size, _, _, _, _, bE1.lt, ⟨a, n, c, d, er, e, heap_alloc_new W _⟩, rfl⟩
  case body =>
    rintro l pre x a' W hl ⟨r, hr⟩ ⟨⟨hp, bP1, bE1⟩, hB1⟩ ⟨Bx, u8, u9, u10, u11, hBx, ⟨a, n, c, d, er, e, hb⟩, rfl⟩ hlt
    obtain ⟨c0, c1, c2, _⟩ := fo_cells hb
    have cP := bP1.cell
    have fP := bP1.frozen
    have cE := bE1.cell
    have fE := bE1.frozen
    rcases fv_er hF A e with ⟨hx, rfl⟩ | ⟨hx, he, hw⟩
    · gi_wp2
      exact ⟨KeepsFrom.refl _ _, keepF_refl _ _, ⟨⟨fun i hi => by rcases List.mem_append.1 hi with hi | hi; exact hp i hi; rw [List.mem_singleton.1 hi]; exact hx, bP1, bE1⟩, hB1⟩⟩
    · have hpx := pos_beyond hx
      cases hwb : wholeB L bs
      · have hw3 : (er == 3) = false := by rw [hw.out, hwb]
        rw [hpx]
        clear hw hwb hpx
        gi_wp2
        exact ⟨(KeepsOthers.setCell _ _ _).from _, ⟨rfl, ⟨x, by simp, hx⟩, bP1.set _, bE1.other (by omega) _⟩, hB1.setCell (p := ⟨w.heap.size, 0, none⟩) (Nat.le_refl _) _⟩
      · have hw3 : (er == 3) = true := by rw [hw.out, hwb]
        rw [hpx]
        clear hw hwb hpx
        gi_wp2
        exact ⟨((KeepsOthers.setCell _ _ _).trans (KeepsOthers.setCell _ _ _)).from _, ⟨rfl, ⟨x, by simp, hx⟩, (bP1.set _).other (by omega) _, (bE1.other (by omega) _).set _⟩, (hB1.setCell (p := ⟨w.heap.size, 0, none⟩) (Nat.le_refl _) _).setCell (p := ⟨w.heap.size + 1, 0, none⟩) (by simp) _⟩
  case done =>
    rintro D xs W hD rfl ⟨⟨hp, _⟩, _⟩ hK
    exact absurd (hp bs.length (by simp)) (by omega)
  case stop =>
    rintro D c pre W hD _ ⟨⟨rfl, _, bP1, bE1⟩, hB1⟩ hK
    have cP := bP1.cell
    have cE := bE1.cell
    gi_wp2
    gi_quiet (fail)
    gi_wp2
    refine ⟨by simp, .inl ⟨_, _, rfl, run_takeDeferred hK, ?_⟩⟩
    exact ⟨_, by simp [results, Try.results17, go_sem], rfl, hB1.trans ((⟨rfl, rfl, rfl, Nat.le_refl _, fun _ _ => rfl⟩ : Below w.heap.size W (W.drewN _)).trans (belowK_b (w := w) (Nat.le_refl _) (W.drewN _) D _ _ (by omega) hK rfl rfl))⟩
end Go.Proofs.Ytpkbjiakjofcnaa
