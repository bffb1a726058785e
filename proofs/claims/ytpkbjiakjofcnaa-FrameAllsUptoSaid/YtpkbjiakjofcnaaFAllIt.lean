/- Contract of the iterator that frame.All hands back, over the law's closure that collects. -/
import Derived.Test.YtpkbjiakjofcnaaFAll1
namespace Go.Proofs.Ytpkbjiakjofcnaa
open Go.RowKit Go.Shelf

attribute [local go_sem] Oper.semAt_some

/-- The body of frame i. -/
def bodyAt (bs : List (List UInt8)) (i : Nat) : List UInt8 := bs.getD i []
abbrev placeV (bs : List (List UInt8)) (i : Nat) : Value := .int .i64 (pos bs i : Int)
abbrev textV (bs : List (List UInt8)) (i : Nat) : Value := .string ⟨(bodyAt bs i).toArray⟩
/-- What has been collected of the frames pre. -/
def CollP (n₀ P Q : Nat) (bs : List (List UInt8)) (pre : List Nat) (w : World) : Prop := ∃ v1 v2, Coll n₀ P Q pre.length pre.length (pre.map (placeV bs)) (pre.map (textV bs)) v1 v2 w
theorem collP_own (n₀ P Q : Nat) (bs : List (List UInt8)) : Own (fun pre w => CollP n₀ P Q bs pre w) := by
  rintro pre W W' row ⟨v1, v2, h1, h2, h3, h4⟩ hg hr
  have hne : ∀ {g : Nat} {cs : Array Value} {t : TypeId} {z : Nat × Nat}, W.heap[g]? = some (.cells cs t z) → some g ≠ row := by
    rintro g cs t z hgb e
    obtain ⟨o, ho, hc⟩ := hr g e.symm
    rw [hgb] at ho
    injection ho with ho
    subst ho
    simp [Obj.isCells] at hc
  have hrow : ∀ {e n : Nat} {v : Value} {xs : List Value}, W.ownsRow n₀ e 1 v n xs → v.ownBlock = none ∨ v.ownBlock ≠ row := by
    rintro e n v xs h
    rcases h.2 with ⟨rfl, _⟩ | ⟨g, cap, cur, rfl, _, hgb, _⟩
    · exact .inl rfl
    · exact .inr (hne hgb)
  exact ⟨v1, v2, h1.kept hg (hne h1), h2.kept hg (hne h2), h3.kept hg (hrow h3), h4.kept hg (hrow h4)⟩
theorem CollP.next {n₀ P Q : Nat} {bs : List (List UInt8)} {pre : List Nat} {w w' : World} (h : CollP n₀ P Q bs pre w) (hb : Below w.heap.size w w') : CollP n₀ P Q bs pre w' :=
  collP_own n₀ P Q bs pre w w' none h (grown_none hb) (fun r e => by cases e)

/-- The closure that collects. -/
abbrev collV (P Q E : Nat) : Value := .func (.func 31) #[] #[.pointer (some ⟨P, 0, none⟩), .pointer (some ⟨Q, 0, none⟩), .pointer (some ⟨E, 0, none⟩)]

def AllItEnd (n₀ P Q most : Nat) (bs : List (List UInt8)) (w : World) (w' : World) : Prop := CollP n₀ P Q bs (List.range (min most bs.length)) w' ∧ Below n₀ w w'

theorem run_load_e (w : World) (ad : Addr) (v : Value) (ev : Operand → Value) (x : Operand) (o : Oper) (ho : o.op = .load 23 x) (ha : ev x = .pointer (some ad)) (k : w.cell? ad = some v) : (execOp ev o).run Try.prog w = .ok (.value v) w := by
  unfold execOp
  rw [ho]
  simp only [ha]
  go_simp
theorem run_load_y (w : World) (ad : Addr) (v : Value) (ev : Operand → Value) (x : Operand) (o : Oper) (ho : o.op = .load 66 x) (ha : ev x = .pointer (some ad)) (k : w.cell? ad = some v) : (execOp ev o).run Try.prog w = .ok (.value v) w := by
  unfold execOp
  rw [ho]
  simp only [ha]
  go_simp
theorem run_load_b (w : World) (ad : Addr) (v : Value) (ev : Operand → Value) (x : Operand) (o : Oper) (ho : o.op = .load 22 x) (ha : ev x = .pointer (some ad)) (k : w.cell? ad = some v) : (execOp ev o).run Try.prog w = .ok (.value v) w := by
  unfold execOp
  rw [ho]
  simp only [ha]
  go_simp
theorem Coll.next {n₀ P Q n m : Nat} {xs ys : List Value} {v1 v2 : Value} {w w' : World} (h : Coll n₀ P Q n m xs ys v1 v2 w) (hb : Below w.heap.size w w') : Coll n₀ P Q n m xs ys v1 v2 w' := by
  have hg := grown_none hb
  obtain ⟨h1, h2, h3, h4⟩ := h
  have hno : ∀ {e n : Nat} {v : Value} {xs : List Value}, w.ownsRow n₀ e 1 v n xs → v.ownBlock = none ∨ v.ownBlock ≠ none := fun _ => Classical.em _
  have hk : ∀ {e n : Nat} {v : Value} {xs : List Value}, w.ownsRow n₀ e 1 v n xs → w'.ownsRow n₀ e 1 v n xs := fun h => h.kept hg (hno h)
  exact ⟨h1.kept hg (fun e => by cases e), h2.kept hg (fun e => by cases e), hk h3, hk h4⟩
theorem Coll.drew {n₀ P Q n m : Nat} {xs ys : List Value} {v1 v2 : Value} {w : World} (h : Coll n₀ P Q n m xs ys v1 v2 w) : Coll n₀ P Q n m xs ys v1 v2 w.drew :=
  h.next ⟨rfl, rfl, rfl, Nat.le_refl _, fun _ _ => rfl⟩
theorem fv_err {L R : List UInt8} {bs : List (List UInt8)} (h : Frs L bs R) (A : Option Addr) {ca i n c : Nat} {a : Option Addr} {d er : Int} (e : fvOf A L ca (pos bs i) = foundV a n c d er) (hi : ¬ i < bs.length) : er = 3 ∨ er = 4 := by
  rw [pos_beyond hi] at e
  have hy := h.no
  unfold fvOf at e
  rw [hy] at e
  injection e with e
  have h5 := congrArg Array.toList e
  simp only [List.cons.injEq, and_true, Value.int.injEq, true_and] at h5
  rw [← h5.2.2]
  unfold gE
  rw [hy]
  simp only
  split <;> simp
theorem below_others {A B : World} (h : Below A.heap.size A B) : KeepsOthers A B := ⟨h.size, fun k _ hk _ => (h.block k (Array.getElem?_eq_some_iff.1 hk).1).trans hk⟩
theorem fv_some {L R : List UInt8} {bs : List (List UInt8)} (h : Frs L bs R) (A : Option Addr) {ca i n c : Nat} {a : Option Addr} {d er : Int} (e : fvOf A L ca (pos bs i) = foundV a n c d er) (hi : i < bs.length) :
    (okF (bodyAt bs i) ∧ (bodyAt bs i).length = n) ∧ ∀ w : World, Bs w A L → Bs w a (bodyAt bs i) := by
  have hy := h.yes hi
  have hbi : bodyAt bs i = bs[i] := by unfold bodyAt; rw [List.getD_eq_getElem?_getD, List.getElem?_eq_getElem hi]; rfl
  obtain ⟨h1, h2, h3, h4⟩ := fr_bytes hy
  unfold fvOf at e
  rw [hy] at e
  injection e with e
  have h5 := congrArg Array.toList e
  simp only [List.cons.injEq, and_true, Value.int.injEq, Value.slice.injEq, true_and] at h5
  obtain ⟨⟨ea, en, _⟩, _, _⟩ := h5
  refine ⟨⟨by rw [hbi]; exact h4, by rw [hbi]; exact en⟩, fun w hB => ?_⟩
  obtain ⟨ob, off, rfl⟩ := bs_some hB (by omega)
  have hBB := bs_take (bs_at hB (pos bs i + (headF bs[i]).length)) bs[i].length
  rw [h1] at hBB
  rw [← ea, hbi]
  exact hBB
theorem coll_far {n₀ P Q n m : Nat} {xs ys : List Value} {v1 v2 : Value} {w : World} (h : Coll n₀ P Q n m xs ys v1 v2 w) {b : Nat} (hb : w.heap.size ≤ b) : some b ≠ v1.ownBlock ∧ b ≠ P := by
  refine ⟨fun e => ?_, fun e => ?_⟩
  · rcases h.r1.2 with ⟨rfl, _⟩ | ⟨g, cap, cur, rfl, _, hgb, _⟩
    · cases e
    · injection e with e
      subst e
      have := (Array.getElem?_eq_some_iff.1 hgb).1
      omega
  · have := h.bP.lt
    omega

set_option maxRecDepth 100000 in
set_option maxHeartbeats 8000000 in
theorem allit_any (n₀ P Q E K most ca : Nat) (A : Option Addr) (L R : List UInt8) (bs : List (List UInt8)) (w : World) (hF : Frs L bs R) (hl : L.length ≤ 140737488351232) (hlc : L.length ≤ ca) (hmany : bs.length ≤ 1099511627776) (hm : 1 ≤ most)
    (hE : E < n₀) (hP : n₀ ≤ P) (hQ : n₀ ≤ Q) (hPQ : P ≠ Q) (hn₀ : n₀ ≤ w.heap.size)
    (bE : Boxed w E 3 (.int .i64 (most : Int))) (bK : Boxed w K 22 (.slice A L.length ca)) (hB : BsU n₀ w A L) (h0 : CollP n₀ P Q bs [] w) :
    Calls Try.prog 41 #[collV P Q E, .pointer (some ⟨K, 0, none⟩)] w fun e w' => e = .returned (.tuple #[]) ∧ AllItEnd n₀ P Q most bs w w' := by
  refine (callsIn_wide (n := 5)).1 ?_
  refine callsIn_of_wp_marks Try.func41 rfl trivial ?_ rfl
  simp only [Try.ntmps41, List.size_toArray, List.length_cons, List.length_nil, Nat.reduceAdd, Nat.reduceSub, Array.replicate_succ, Array.replicate_zero, List.push_toArray, List.append_toArray, List.nil_append, List.cons_append]
  have cK := (bK.alloc (.cells #[collV P Q E] 66)).cell
  gi_wp2_with (refine ⟨trivial, ?_⟩; gi_at_call 29; refine (callsIn_wide.2 (steps_any A L.length ca _)).mono ?_; rintro e w' ⟨rfl, rfl⟩)
  obtain ⟨Y, hY⟩ : ∃ Y, w.heap.size = Y := ⟨_, rfl⟩
  have bY := (Boxed.new w 66 (collV P Q E)).alloc (.cells #[.slice A L.length ca] 22)
  have bB := Boxed.new (w.alloc (.cells #[collV P Q E] 66)) 22 (.slice A L.length ca)
  simp only [World.size_alloc] at bB
  have hB0 : Below w.heap.size w ((w.alloc (.cells #[collV P Q E] 66)).alloc (.cells #[.slice A L.length ca] 22)) := ((Below.refl _ w).alloc (Nat.le_refl _) _).alloc (by simp) _
  have hsz : ((w.alloc (.cells #[collV P Q E] 66)).alloc (.cells #[.slice A L.length ca] 22)).heap.size = w.heap.size + 2 := by simp
  obtain ⟨W0, hW0⟩ : ∃ W0, (w.alloc (.cells #[collV P Q E] 66)).alloc (.cells #[.slice A L.length ca] 22) = W0 := ⟨_, rfl⟩
  rw [hW0] at bY bB hB0 hsz ⊢
  clear hW0
  have hb00 : Below n₀ w W0 := hB0.mono hn₀
  have hC0 : CollP n₀ P Q bs [] W0 := h0.next hB0
  rw [hY] at bY bB hsz ⊢
  have hHB : HasB n₀ (Y + 1) A L ca W0 := ⟨bB, hB.below hb00, by omega⟩
  refine wpIn_rangeFunc_ownH rfl (by omega) (gf := 40) (lb := #[.pointer (some ⟨Y + 1, 0, none⟩)]) rfl trivial (enters_of Try.func40 (by kernel_rfl) rfl)
    (steps_stops (5 - 1) (by omega) (Y + 1) n₀ ca A L R bs hF hl hlc W0 hHB) keepF_t (keepF_b (by omega)) (Below.refl _ _) (fun _ => rfl)
    (fun pre W => ((∀ i ∈ pre, i < bs.length) ∧ pre.length < most) ∧ (CollP n₀ P Q bs pre W ∧ Boxed W Y 66 (collV P Q E)) ∧ Below n₀ w W)
    (fun c pre W => ∃ pre' x, (c = .ret ∧ pre = pre' ++ [x] ∧ pre'.length < most ∧ (∀ i ∈ pre', i < bs.length)) ∧ ((¬ x < bs.length ∧ CollP n₀ P Q bs pre' W) ∨ ((x < bs.length ∧ most ≤ pre'.length + 1) ∧ CollP n₀ P Q bs (pre' ++ [x]) W)) ∧ Below n₀ w W)
    (OwnFrom.and (ownFrom_pure _ _) (OwnFrom.and (OwnFrom.and (Own.from (collP_own _ _ _ _) _) (Own.from (boxed_own _ _ _) _)) (ownFrom_below hn₀ (by omega))))
    (fun c pre X Z row hs hg hr => by
      obtain ⟨pre', x, h1, h2, h3⟩ := hs
      refine ⟨pre', x, h1, ?_, ownFrom_below (β := Unit) hn₀ (by omega) () X Z row h3 hg hr⟩
      rcases h2 with ⟨h2, h4⟩ | ⟨h2, h4⟩
      · exact .inl ⟨h2, collP_own n₀ P Q bs pre' X Z row h4 hg (fun r e => (hr r e).2)⟩
      · exact .inr ⟨h2, collP_own n₀ P Q bs (pre' ++ [x]) X Z row h4 hg (fun r e => (hr r e).2)⟩)
    ⟨⟨by simp, by simp; omega⟩, ⟨hC0, bY⟩, hb00⟩
    (fun x a' W => ∃ Bx u5 u6 u7 u8, Boxed3 W Bx (fvOf A L ca (pos bs x)) ∧ a' = { tmps := #[collV P Q E, .pointer (some ⟨K, 0, none⟩), .pointer (some ⟨Y, 0, none⟩), .int .i64 (pos bs x : Int), .pointer (some ⟨Bx, 0, none⟩), u5, u6, u7, u8, undef, undef, undef, undef, undef, undef, undef, undef, undef, undef, undef, undef], defers := [] })
    (fun x a' _ X Z row hs hg hr => by obtain ⟨Bx, u5, u6, u7, u8, h2, h3⟩ := hs; exact ⟨Bx, u5, u6, u7, u8, h2.kept hg (fun r e => (hr r e).2), h3⟩)
    ?assign ?body ?done ?stop
  case assign =>
    rintro l pre x W K' ⟨hp, ⟨hC1, bY1⟩, hB1⟩ hK'
    obtain ⟨a, n, c, d, er, e, _⟩ := fv_any hF A ca x
    dsimp only [encsF]
    rw [e]
    gi_wp2
    exact hK' _ _ ((KeepsOthers.alloc _ _).from _) (keepF_new (Nat.le_trans hn₀ hB1.size) ((Below.refl _ W).alloc (Nat.le_refl _) _)) ⟨hp, ⟨hC1.next ((Below.refl _ W).alloc (Nat.le_refl _) _), bY1.alloc _⟩, hB1.alloc (Nat.le_trans hn₀ hB1.size) _⟩ ⟨W.heap.size, _, _, _, _, ⟨a, n, c, d, er, e, heap_alloc_new W _⟩, rfl⟩
  case body =>
    rintro l pre x a' W hl' ⟨r, hr⟩ ⟨⟨hp, hpl⟩, ⟨hC1, bY1⟩, hB1⟩ ⟨Bx, u5, u6, u7, u8, ⟨a, n, c, d, er, e, hb⟩, rfl⟩ hlt
    have hnW : n₀ ≤ W.heap.size := Nat.le_trans hn₀ hB1.size
    have hErr : ∀ wz, KeepT n₀ W wz → wz.cell? ⟨Bx, 2, none⟩ = some (.int .i64 er) := fun wz h => (fo_cells (h.2 _ _ _ hb ⟨by decide, by decide, by decide, by decide⟩)).2.2.1
    have hBdy : ∀ wz, KeepT n₀ W wz → wz.cell? ⟨Bx, 0, none⟩ = some (.slice a n c) := fun wz h => (fo_cells (h.2 _ _ _ hb ⟨by decide, by decide, by decide, by decide⟩)).1
    have hYld : ∀ wz, KeepT n₀ W wz → wz.cell? ⟨Y, 0, none⟩ = some (collV P Q E) := fun wz h => (show Boxed wz Y _ _ from h.2 _ _ _ bY1 ⟨by decide, by decide, by decide, by decide⟩).cell
    have hBW := (hB.below hB1).bs
    have bE1 : Boxed W E 3 (.int .i64 (most : Int)) := (hB1.block E hE).trans bE
    have HEr := Lib.hid hErr
    have HBd := Lib.hid hBdy
    have HYl := Lib.hid hYld
    rcases fv_er hF A e with ⟨hx, rfl⟩ | ⟨hx, he, _⟩
    · obtain ⟨hfb, hab⟩ := fv_some hF A e hx
      have hBB := hab W hBW
      have cC := clone_any a (bodyAt bs x) c W.drew (by have := hfb.1.2; omega) hBB (fun h => by subst h; obtain ⟨_, _, h2⟩ := bs_some hBB (by have := hfb.1.1; omega); cases h2)
      rw [hfb.2] at cC
      obtain ⟨more, hmore⟩ : ∃ b, decide (((pre.length : Int) + 1) < (most : Int)) = b := ⟨_, rfl⟩
      have hC1' := hC1
      obtain ⟨v1, v2, hCl⟩ := hC1'
      have cAll : ∀ (A2 : Option Addr) (cap2 : Nat) (w2 : World), Below W.drew.heap.size W.drew w2 → w2.ownsRow W.drew.heap.size 5 1 (.slice A2 (bodyAt bs x).length cap2) (bodyAt bs x).length (Lib.byteCells (bodyAt bs x)) →
          Calls Try.prog 31 #[.int .i64 (pos bs x : Int), .slice A2 n cap2, .pointer (some ⟨P, 0, none⟩), .pointer (some ⟨Q, 0, none⟩), .pointer (some ⟨E, 0, none⟩)] w2 (fun e w3 => e = .returned (.bool more) ∧ CollP n₀ P Q bs (pre ++ [x]) w3 ∧ KeepT n₀ w2 w3 ∧ KeepsOthers w2 w3) := by
        intro A2 cap2 w2 h2 ho2
        have hCl2 := (hCl.drew).next h2
        have hs2 : n₀ ≤ w2.heap.size := Nat.le_trans hnW h2.size
        have bE2 : Boxed w2 E 3 (.int .i64 (most : Int)) := (h2.block E (show E < W.heap.size by omega)).trans bE1
        have c1 := all1_any n₀ P Q E pre.length most (pos bs x : Int) A2 (bodyAt bs x) cap2 v1 v2 _ _ w2 hE hP hQ hPQ hs2 hCl2 bE2 (by omega) (fun h0 => by
          obtain ⟨b, off, e1, e2, e3⟩ := BsN.of_own ho2 h0
          obtain ⟨f1, f2⟩ := coll_far hCl e2
          exact ⟨b, off, e1, f1, f2, e3⟩)
        rw [hfb.2, hmore] at c1
        refine c1.mono ?_
        rintro e w3 ⟨rfl, ⟨v1', v2', hC3⟩, hT3, hO3⟩
        refine ⟨rfl, ⟨v1', v2', ?_⟩, hT3, hO3⟩
        rw [List.map_append, List.map_append, List.length_append]
        exact hC3
      clear hErr hBdy hYld
      gi_wp2_with fail
      have hErr := HEr.out
      have hBdy := HBd.out
      have hYld := HYl.out
      refine wpIn_region_held (S := fun w' => KeepT n₀ W w') (by kernel_rfl) (by kernel_rfl) (by rintro ⟨_, _, h⟩; exact h) (KeepT.new hnW ⟨rfl, rfl, rfl, Nat.le_refl _, fun _ _ => rfl⟩) (fun hHeld => ?_)
      refine held_take (i := 0) (v := ?_) rfl (by kernel_rfl) (by kernel_rfl) (by kernel_rfl) (fun _ _ _ h => h) (by rfl) hHeld ?_ ?_
      rotate_left
      · intro wz hSz; go_simp; try with_reducible rfl
      simp only [Act.put, List.setIfInBounds_toArray, List.set_cons_zero, List.set_cons_succ]
      refine held_take (i := 1) (v := .int .i64 0) rfl (by kernel_rfl) (by kernel_rfl) (by kernel_rfl) (fun _ _ _ h => h) (by rfl) hHeld ?_ ?_
      · intro wz hSz; exact run_load_e wz _ _ _ _ _ rfl rfl (hErr wz hSz)
      simp only [Act.put, List.setIfInBounds_toArray, List.set_cons_zero, List.set_cons_succ]
      refine held_take (i := 2) (v := ?_) rfl (by kernel_rfl) (by kernel_rfl) (by kernel_rfl) (fun _ _ _ h => h) (by rfl) hHeld ?_ ?_
      rotate_left
      · intro wz hSz; go_simp; try with_reducible rfl
      simp only [Act.put, List.setIfInBounds_toArray, List.set_cons_zero, List.set_cons_succ]
      refine held_take (i := 3) (v := ?_) rfl (by kernel_rfl) (by kernel_rfl) (by kernel_rfl) (fun _ _ _ h => h) (by rfl) hHeld ?_ ?_
      rotate_left
      · intro wz hSz; go_simp; try with_reducible rfl
      simp only [Act.put, List.setIfInBounds_toArray, List.set_cons_zero, List.set_cons_succ]
      refine held_take (i := 4) (v := collV P Q E) rfl (by kernel_rfl) (by kernel_rfl) (by kernel_rfl) (fun _ _ _ h => h) (by rfl) hHeld ?_ ?_
      · intro wz hSz; exact run_load_y wz _ _ _ _ _ rfl rfl (hYld wz hSz)
      simp only [Act.put, List.setIfInBounds_toArray, List.set_cons_zero, List.set_cons_succ]
      refine held_take (i := 5) (v := ?_) rfl (by kernel_rfl) (by kernel_rfl) (by kernel_rfl) (fun _ _ _ h => h) (by rfl) hHeld ?_ ?_
      rotate_left
      · intro wz hSz; go_simp; try with_reducible rfl
      simp only [Act.put, List.setIfInBounds_toArray, List.set_cons_zero, List.set_cons_succ]
      refine held_take (i := 6) (v := ?_) rfl (by kernel_rfl) (by kernel_rfl) (by kernel_rfl) (fun _ _ _ h => h) (by rfl) hHeld ?_ ?_
      rotate_left
      · intro wz hSz; go_simp; try with_reducible rfl
      simp only [Act.put, List.setIfInBounds_toArray, List.set_cons_zero, List.set_cons_succ]
      refine held_take (i := 7) (v := .slice a n c) rfl (by kernel_rfl) (by kernel_rfl) (by kernel_rfl) (fun _ _ _ h => h) (by rfl) hHeld ?_ ?_
      · intro wz hSz; exact run_load_b wz _ _ _ _ _ rfl rfl (hBdy wz hSz)
      simp only [Act.put, List.setIfInBounds_toArray, List.set_cons_zero, List.set_cons_succ]
      refine held_call (i := 8) (by kernel_rfl) rfl (by rfl) (by go_simp; try with_reducible rfl) (cC) ?_
      rintro e w2 ⟨A2, cap2, rfl, hB2, hn2, hown2, hb2⟩
      have hT2 : KeepT n₀ W w2 := hHeld.trans (KeepT.new hnW hb2)
      refine ⟨_, rfl, hT2, ?_⟩
      replace hHeld := hT2
      simp only [Act.put, List.setIfInBounds_toArray, List.set_cons_zero, List.set_cons_succ]
      have cY := cAll A2 cap2 w2 hb2 hown2
      refine held_call (i := 9) (by kernel_rfl) rfl (by rfl) (by go_simp; try with_reducible rfl) (cY) ?_
      rintro e w3 ⟨rfl, hC3, hT3, hO3⟩
      have hT4 : KeepT n₀ W w3 := hT2.trans hT3
      refine ⟨_, rfl, hT4, ?_⟩
      replace hHeld := hT4
      simp only [Act.put, List.setIfInBounds_toArray, List.set_cons_zero, List.set_cons_succ]
      refine held_take (i := 10) (v := ?_) rfl (by kernel_rfl) (by kernel_rfl) (by kernel_rfl) (fun _ _ _ h => h) (by rfl) hHeld ?_ ?_
      rotate_left
      · intro wz hSz; go_simp; try with_reducible rfl
      simp only [Act.put, List.setIfInBounds_toArray, List.set_cons_zero, List.set_cons_succ]
      refine held_take (i := 11) (v := ?_) rfl (by kernel_rfl) (by kernel_rfl) (by kernel_rfl) (fun _ _ _ h => h) (by rfl) hHeld ?_ ?_
      rotate_left
      · intro wz hSz; go_simp; try with_reducible rfl
      simp only [Act.put, List.setIfInBounds_toArray, List.set_cons_zero, List.set_cons_succ]
      refine wpAnyH_done (by kernel_rfl) ?_ _
      have HKO := Lib.hid (((KeepsOthers.drew W).trans ((below_others hb2).trans hO3)).from W0.heap.size)
      gi_wp2_with fail
      · have hmf : more = false := by
          have hm3 : (!more) = true := by assumption
          simpa using hm3
        have hmd : ¬ ((pre.length : Int) + 1) < (most : Int) := by rw [hmf] at hmore; simpa using hmore
        exact ⟨HKO.out, pre, x, ⟨rfl, rfl, hpl, hp⟩, .inr ⟨⟨hx, by omega⟩, hC3⟩, hB1.trans hT4.1⟩
      · have hmf : more = true := by
          have hm3 : (!more) = false := by assumption
          simpa using hm3
        have hmd : ((pre.length : Int) + 1) < (most : Int) := by rw [hmf] at hmore; simpa using hmore
        exact ⟨HKO.out, hT4.f, ⟨fun i hi => by rcases List.mem_append.1 hi with hi | hi; exact hp i hi; rw [List.mem_singleton.1 hi]; exact hx, by rw [List.length_append]; simp only [List.length_cons, List.length_nil]; omega⟩, ⟨hC3, hT4.2 _ _ _ bY1 ⟨by decide, by decide, by decide, by decide⟩⟩, hB1.trans hT4.1⟩
    · rcases fv_err hF A e hx with rfl | rfl
      · clear hErr hBdy hYld
        gi_wp2_with fail
        have hErr := HEr.out
        refine wpIn_region_held (S := fun w' => KeepT n₀ W w') (by kernel_rfl) (by kernel_rfl) (by rintro ⟨_, _, h⟩; exact h) (KeepT.new hnW ⟨rfl, rfl, rfl, Nat.le_refl _, fun _ _ => rfl⟩) (fun hHeld => ?_)
        refine held_take (i := 0) (v := ?_) rfl (by kernel_rfl) (by kernel_rfl) (by kernel_rfl) (fun _ _ _ h => h) (by rfl) hHeld ?_ ?_
        rotate_left
        · intro wz hSz; go_simp; try with_reducible rfl
        simp only [Act.put, List.setIfInBounds_toArray, List.set_cons_zero, List.set_cons_succ]
        refine held_take (i := 1) (v := .int .i64 3) rfl (by kernel_rfl) (by kernel_rfl) (by kernel_rfl) (fun _ _ _ h => h) (by rfl) hHeld ?_ ?_
        · intro wz hSz; exact run_load_e wz _ _ _ _ _ rfl rfl (hErr wz hSz)
        simp only [Act.put, List.setIfInBounds_toArray, List.set_cons_zero, List.set_cons_succ]
        refine held_take (i := 2) (v := ?_) rfl (by kernel_rfl) (by kernel_rfl) (by kernel_rfl) (fun _ _ _ h => h) (by rfl) hHeld ?_ ?_
        rotate_left
        · intro wz hSz; go_simp; try with_reducible rfl
        simp only [Act.put, List.setIfInBounds_toArray, List.set_cons_zero, List.set_cons_succ]
        refine held_take (i := 3) (v := ?_) rfl (by kernel_rfl) (by kernel_rfl) (by kernel_rfl) (fun _ _ _ h => h) (by rfl) hHeld ?_ ?_
        rotate_left
        · intro wz hSz; go_simp; try with_reducible rfl
        simp only [Act.put, List.setIfInBounds_toArray, List.set_cons_zero, List.set_cons_succ]
        refine held_skip (i := 4) rfl (by kernel_rfl) (by kernel_rfl) (by kernel_rfl) (fun _ _ _ h => h) (by rfl) hHeld ?_
        simp only [Act.put, List.setIfInBounds_toArray, List.set_cons_zero, List.set_cons_succ]
        refine held_skip (i := 5) rfl (by kernel_rfl) (by kernel_rfl) (by kernel_rfl) (fun _ _ _ h => h) (by rfl) hHeld ?_
        simp only [Act.put, List.setIfInBounds_toArray, List.set_cons_zero, List.set_cons_succ]
        refine held_skip (i := 6) rfl (by kernel_rfl) (by kernel_rfl) (by kernel_rfl) (fun _ _ _ h => h) (by rfl) hHeld ?_
        simp only [Act.put, List.setIfInBounds_toArray, List.set_cons_zero, List.set_cons_succ]
        refine held_skip (i := 7) rfl (by kernel_rfl) (by kernel_rfl) (by kernel_rfl) (fun _ _ _ h => h) (by rfl) hHeld ?_
        simp only [Act.put, List.setIfInBounds_toArray, List.set_cons_zero, List.set_cons_succ]
        refine held_skip (i := 8) rfl (by kernel_rfl) (by kernel_rfl) (by kernel_rfl) (fun _ _ _ h => h) (by rfl) hHeld ?_
        simp only [Act.put, List.setIfInBounds_toArray, List.set_cons_zero, List.set_cons_succ]
        refine held_skip (i := 9) rfl (by kernel_rfl) (by kernel_rfl) (by kernel_rfl) (fun _ _ _ h => h) (by rfl) hHeld ?_
        simp only [Act.put, List.setIfInBounds_toArray, List.set_cons_zero, List.set_cons_succ]
        refine held_skip (i := 10) rfl (by kernel_rfl) (by kernel_rfl) (by kernel_rfl) (fun _ _ _ h => h) (by rfl) hHeld ?_
        simp only [Act.put, List.setIfInBounds_toArray, List.set_cons_zero, List.set_cons_succ]
        refine held_take (i := 11) (v := ?_) rfl (by kernel_rfl) (by kernel_rfl) (by kernel_rfl) (fun _ _ _ h => h) (by rfl) hHeld ?_ ?_
        rotate_left
        · intro wz hSz; go_simp; try with_reducible rfl
        simp only [Act.put, List.setIfInBounds_toArray, List.set_cons_zero, List.set_cons_succ]
        refine wpAnyH_done (by kernel_rfl) ?_ _
        gi_wp2_with fail
        exact ⟨(KeepsOthers.drew W).from _, pre, x, ⟨rfl, rfl, hpl, hp⟩, .inl ⟨hx, hC1.next ⟨rfl, rfl, rfl, Nat.le_refl _, fun _ _ => rfl⟩⟩, hB1.drew⟩
      · clear hErr hBdy hYld
        gi_wp2_with fail
        have hErr := HEr.out
        refine wpIn_region_held (S := fun w' => KeepT n₀ W w') (by kernel_rfl) (by kernel_rfl) (by rintro ⟨_, _, h⟩; exact h) (KeepT.new hnW ⟨rfl, rfl, rfl, Nat.le_refl _, fun _ _ => rfl⟩) (fun hHeld => ?_)
        refine held_take (i := 0) (v := ?_) rfl (by kernel_rfl) (by kernel_rfl) (by kernel_rfl) (fun _ _ _ h => h) (by rfl) hHeld ?_ ?_
        rotate_left
        · intro wz hSz; go_simp; try with_reducible rfl
        simp only [Act.put, List.setIfInBounds_toArray, List.set_cons_zero, List.set_cons_succ]
        refine held_take (i := 1) (v := .int .i64 4) rfl (by kernel_rfl) (by kernel_rfl) (by kernel_rfl) (fun _ _ _ h => h) (by rfl) hHeld ?_ ?_
        · intro wz hSz; exact run_load_e wz _ _ _ _ _ rfl rfl (hErr wz hSz)
        simp only [Act.put, List.setIfInBounds_toArray, List.set_cons_zero, List.set_cons_succ]
        refine held_take (i := 2) (v := ?_) rfl (by kernel_rfl) (by kernel_rfl) (by kernel_rfl) (fun _ _ _ h => h) (by rfl) hHeld ?_ ?_
        rotate_left
        · intro wz hSz; go_simp; try with_reducible rfl
        simp only [Act.put, List.setIfInBounds_toArray, List.set_cons_zero, List.set_cons_succ]
        refine held_take (i := 3) (v := ?_) rfl (by kernel_rfl) (by kernel_rfl) (by kernel_rfl) (fun _ _ _ h => h) (by rfl) hHeld ?_ ?_
        rotate_left
        · intro wz hSz; go_simp; try with_reducible rfl
        simp only [Act.put, List.setIfInBounds_toArray, List.set_cons_zero, List.set_cons_succ]
        refine held_skip (i := 4) rfl (by kernel_rfl) (by kernel_rfl) (by kernel_rfl) (fun _ _ _ h => h) (by rfl) hHeld ?_
        simp only [Act.put, List.setIfInBounds_toArray, List.set_cons_zero, List.set_cons_succ]
        refine held_skip (i := 5) rfl (by kernel_rfl) (by kernel_rfl) (by kernel_rfl) (fun _ _ _ h => h) (by rfl) hHeld ?_
        simp only [Act.put, List.setIfInBounds_toArray, List.set_cons_zero, List.set_cons_succ]
        refine held_skip (i := 6) rfl (by kernel_rfl) (by kernel_rfl) (by kernel_rfl) (fun _ _ _ h => h) (by rfl) hHeld ?_
        simp only [Act.put, List.setIfInBounds_toArray, List.set_cons_zero, List.set_cons_succ]
        refine held_skip (i := 7) rfl (by kernel_rfl) (by kernel_rfl) (by kernel_rfl) (fun _ _ _ h => h) (by rfl) hHeld ?_
        simp only [Act.put, List.setIfInBounds_toArray, List.set_cons_zero, List.set_cons_succ]
        refine held_skip (i := 8) rfl (by kernel_rfl) (by kernel_rfl) (by kernel_rfl) (fun _ _ _ h => h) (by rfl) hHeld ?_
        simp only [Act.put, List.setIfInBounds_toArray, List.set_cons_zero, List.set_cons_succ]
        refine held_skip (i := 9) rfl (by kernel_rfl) (by kernel_rfl) (by kernel_rfl) (fun _ _ _ h => h) (by rfl) hHeld ?_
        simp only [Act.put, List.setIfInBounds_toArray, List.set_cons_zero, List.set_cons_succ]
        refine held_skip (i := 10) rfl (by kernel_rfl) (by kernel_rfl) (by kernel_rfl) (fun _ _ _ h => h) (by rfl) hHeld ?_
        simp only [Act.put, List.setIfInBounds_toArray, List.set_cons_zero, List.set_cons_succ]
        refine held_take (i := 11) (v := ?_) rfl (by kernel_rfl) (by kernel_rfl) (by kernel_rfl) (fun _ _ _ h => h) (by rfl) hHeld ?_ ?_
        rotate_left
        · intro wz hSz; go_simp; try with_reducible rfl
        simp only [Act.put, List.setIfInBounds_toArray, List.set_cons_zero, List.set_cons_succ]
        refine wpAnyH_done (by kernel_rfl) ?_ _
        gi_wp2_with fail
        exact ⟨(KeepsOthers.drew W).from _, pre, x, ⟨rfl, rfl, hpl, hp⟩, .inl ⟨hx, hC1.next ⟨rfl, rfl, rfl, Nat.le_refl _, fun _ _ => rfl⟩⟩, hB1.drew⟩
  case done =>
    rintro D xs W hD rfl ⟨⟨hp, _⟩, _⟩ hKD
    exact absurd (hp bs.length (by simp)) (by omega)
  case stop =>
    rintro D c pre W hD ⟨k, hk, hpre⟩ ⟨pre', x, ⟨rfl, hpx, hpl, hp⟩, hways, hB1⟩ hKD
    rw [hpre, List.range_succ] at hpx
    obtain ⟨h1, h2⟩ := List.append_inj' hpx rfl
    injection h2 with h2
    subst h1
    subst h2
    rw [List.length_range] at hpl hways
    have hD' : n₀ ≤ D := by omega
    have hfin : CollP n₀ P Q bs (List.range (min most bs.length)) W := by
      rcases hways with ⟨hx, hC⟩ | ⟨⟨hx, hmx⟩, hC⟩
      · rwa [show min most bs.length = k by omega]
      · rw [← List.range_succ] at hC
        rwa [show min most bs.length = k + 1 by omega]
    have HF := Lib.hid hfin
    clear hfin hways
    gi_wp2
    refine ⟨by simp, .inl ⟨_, _, rfl, run_takeDeferred hKD, ?_⟩⟩
    exact ⟨_, by simp [results, Try.results41, go_sem], rfl, collP_own n₀ P Q bs _ W _ (some D) HF.out (grownBy_putObj' W D (.deferred none)) (fun r e => by injection e with e; subst e; exact ⟨_, hKD, rfl⟩), hB1.trans (belowK_b (w := w) hn₀ W D _ _ (by omega) hKD rfl rfl)⟩
end Go.Proofs.Ytpkbjiakjofcnaa
