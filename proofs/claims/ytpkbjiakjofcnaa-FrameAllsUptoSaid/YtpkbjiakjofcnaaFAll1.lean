/- Contract of the law's closure that collects: a place and a text more. -/
import Derived.Test.YtpkbjiakjofcnaaFRefGet
import Derived.Test.YtpkbjiakjofcnaaFHeldIn
import Derived.RangeFuncBox
import Derived.Maps.AppendAt
namespace Go.Proofs.Ytpkbjiakjofcnaa
open Go.RowKit Go.Shelf

/-- What collecting keeps: all below n₀, and every cell but the collected ones'. -/
def KeepT (n₀ : Nat) (W W' : World) : Prop := Below n₀ W W' ∧ ∀ (k : Nat) (cs : Array Value) (t : TypeId), W.heap[k]? = some (Obj.cells cs t) → (t ≠ 3 ∧ t ≠ 9 ∧ t ≠ 38 ∧ t ≠ 39) → W'.heap[k]? = some (Obj.cells cs t)
section
variable {n₀ : Nat} {A B C : World}
theorem KeepT.refl (n₀ : Nat) (W : World) : KeepT n₀ W W := ⟨Below.refl _ _, fun _ _ _ h _ => h⟩
theorem KeepT.trans (h : KeepT n₀ A B) (k : KeepT n₀ B C) : KeepT n₀ A C := ⟨h.1.trans k.1, fun i cs t hi ht => k.2 i cs t (h.2 i cs t hi ht) ht⟩
theorem KeepT.new (hn : n₀ ≤ A.heap.size) (hb : Below A.heap.size A B) : KeepT n₀ A B :=
  ⟨hb.mono hn, fun k _ _ hk _ => (hb.block k (Array.getElem?_eq_some_iff.1 hk).1).trans hk⟩
theorem KeepT.row {e n : Nat} {v : Value} {xs : List Value} (hr : A.ownsRow n₀ e 1 v n xs) (he : e = 3 ∨ e = 9) (hg : A.grownBy B v.ownBlock) (hn : n₀ ≤ A.heap.size) : KeepT n₀ A B := by
  refine ⟨below_own hr hg hn, fun k cs t hk ht => ?_⟩
  refine (hg.block k (Array.getElem?_eq_some_iff.1 hk).1 ?_).trans hk
  intro e1
  rcases hr.2 with ⟨rfl, _⟩ | ⟨g, cap, cur, rfl, _, hgb, _⟩
  · cases e1
  · injection e1 with e1
    subst e1
    rw [hgb] at hk
    injection hk with hk
    injection hk with _ hk
    subst hk
    rcases he with rfl | rfl
    · exact ht.1 rfl
    · exact ht.2.1 rfl
theorem KeepT.set {K : Nat} {t : TypeId} {v : Value} (u : Value) (h : Boxed A K t v) (hK : n₀ ≤ K) (ht : t = 38 ∨ t = 39) : KeepT n₀ A (A.setCell ⟨K, 0, none⟩ u) := by
  refine ⟨(Below.refl _ _).setCell hK _, fun k cs t' hk ht' => ?_⟩
  have hne : k ≠ K := by
    rintro rfl
    have h2 : A.heap[k]? = some (.cells #[v] t) := h
    rw [h2] at hk
    injection hk with hk
    injection hk with _ hk
    subst hk
    rcases ht with rfl | rfl
    · exact ht'.2.2.1 rfl
    · exact ht'.2.2.2 rfl
  exact (Below.heap_setCell _ _ _ _ hne).trans hk
end
theorem KeepT.f {n₀ : Nat} {A B : World} (h : KeepT n₀ A B) : KeepF n₀ A B :=
  ⟨h.1, fun k cs t hk ht => h.2 k cs t hk (by rcases ht with rfl | rfl <;> exact ⟨by decide, by decide, by decide, by decide⟩)⟩

/-- What has been collected: two boxes, and what they hold. -/
structure Coll (n₀ P Q : Nat) (n m : Nat) (xs ys : List Value) (v1 v2 : Value) (w : World) : Prop where
  bP : Boxed w P 38 v1
  bQ : Boxed w Q 39 v2
  r1 : w.ownsRow n₀ 3 1 v1 n xs
  r2 : w.ownsRow n₀ 9 1 v2 m ys
theorem rows_apart {w : World} {n₀ n₁ e1 e2 n m : Nat} {v1 v2 : Value} {xs ys : List Value} (r1 : w.ownsRow n₀ e1 1 v1 n xs) (r2 : w.ownsRow n₁ e2 1 v2 m ys) (he : e1 ≠ e2) : v1.ownBlock = none ∨ v1.ownBlock ≠ v2.ownBlock := by
  rcases r1.2 with ⟨rfl, _⟩ | ⟨g, cap, cur, rfl, _, hgb, _⟩
  · exact .inl rfl
  · refine .inr fun e' => ?_
    rcases r2.2 with ⟨rfl, _⟩ | ⟨g2, cap2, cur2, rfl, _, hgb2, _⟩
    · cases e'
    · injection e' with e'
      subst e'
      rw [hgb] at hgb2
      injection hgb2 with h
      injection h with _ h
      exact he h
section
variable {n₀ P Q n m : Nat} {xs ys : List Value} {v1 v2 : Value} {w w1 : World}
theorem Coll.step1 (hC : Coll n₀ P Q n m xs ys v1 v2 w) (hPQ : P ≠ Q) (hn₀ : n₀ ≤ w.heap.size) (hP : n₀ ≤ P) {tmp : Obj} {v' x : Value} (hown : w1.ownsRow n₀ 3 1 v' (n + 1) (xs ++ [x])) (hg : (w.alloc tmp).grownBy w1 v1.ownBlock) :
    Boxed w1 P 38 v1 ∧ Coll n₀ P Q (n + 1) m (xs ++ [x]) ys v' v2 (w1.setCell ⟨P, 0, none⟩ v') ∧ KeepT n₀ w (w1.setCell ⟨P, 0, none⟩ v') ∧ KeepsOthers w (w1.setCell ⟨P, 0, none⟩ v') ∧
      (∀ b off c, some b ≠ v1.ownBlock → b ≠ P → w.cell? ⟨b, off, none⟩ = some c → (w1.setCell ⟨P, 0, none⟩ v').cell? ⟨b, off, none⟩ = some c) := by
  obtain ⟨bP, bQ, r1, r2⟩ := hC
  obtain ⟨h1, h2, h3, h4, _⟩ := bP.appended (by decide) r1 hn₀ hP hown hg
  have hsz : n₀ ≤ (w.alloc tmp).heap.size := by simp; omega
  refine ⟨h1, ⟨h2, (((bQ.alloc tmp).kept hg (bQ.not_row (by decide) r1)).other hPQ.symm _), h3, ?_⟩, ?_, h4, ?_⟩
  · have h5 := (r2.alloc tmp).kept hg (rows_apart r2 r1 (by decide))
    exact h5.kept (grownBy_setCell' w1 P v') (.inr (h1.not_row (by decide) h5).symm)
  · exact ((KeepT.new hn₀ ((Below.refl _ w).alloc (Nat.le_refl _) tmp)).trans (KeepT.row (r1.alloc tmp) (.inl rfl) hg hsz)).trans (KeepT.set v' h1 hP (.inl rfl))
  · intro b off c hb hbP hc
    have hlt : b < w.heap.size := World.block_lt_of_cell? w ⟨b, off, none⟩ hc
    rw [World.cell?_of_block (w := w1) (a := ⟨b, off, none⟩) (Below.heap_setCell _ _ _ _ hbP), World.cell?_of_block (w := w.alloc tmp) (a := ⟨b, off, none⟩) (hg.block b (by simp; omega) hb), World.cell?_of_block (w := w) (a := ⟨b, off, none⟩) (Below.heap_alloc w tmp b hlt)]
    exact hc
theorem Coll.step2 (hC : Coll n₀ P Q n m xs ys v1 v2 w) (hPQ : P ≠ Q) (hn₀ : n₀ ≤ w.heap.size) (hQ : n₀ ≤ Q) {tmp : Obj} {v' y : Value} (hown : w1.ownsRow n₀ 9 1 v' (m + 1) (ys ++ [y])) (hg : (w.alloc tmp).grownBy w1 v2.ownBlock) :
    Boxed w1 Q 39 v2 ∧ Coll n₀ P Q n (m + 1) xs (ys ++ [y]) v1 v' (w1.setCell ⟨Q, 0, none⟩ v') ∧ KeepT n₀ w (w1.setCell ⟨Q, 0, none⟩ v') ∧ KeepsOthers w (w1.setCell ⟨Q, 0, none⟩ v') := by
  obtain ⟨bP, bQ, r1, r2⟩ := hC
  obtain ⟨h1, h2, h3, h4, _⟩ := bQ.appended (by decide) r2 hn₀ hQ hown hg
  have hsz : n₀ ≤ (w.alloc tmp).heap.size := by simp; omega
  refine ⟨h1, ⟨(((bP.alloc tmp).kept hg (bP.not_row (by decide) r2)).other hPQ _), h2, ?_, h3⟩, ?_, h4⟩
  · have h5 := (r1.alloc tmp).kept hg (rows_apart r1 r2 (by decide))
    exact h5.kept (grownBy_setCell' w1 Q v') (.inr (h1.not_row (by decide) h5).symm)
  · exact ((KeepT.new hn₀ ((Below.refl _ w).alloc (Nat.le_refl _) tmp)).trans (KeepT.row (r2.alloc tmp) (.inr rfl) hg hsz)).trans (KeepT.set v' h1 hQ (.inr rfl))
end
theorem cell_one_at (w : World) (x : Value) (t : TypeId) (g : Nat) (hg : g = w.heap.size) : ∀ j u, [x][j]? = some u → (w.alloc (.cells #[x] t)).cell? ((⟨g, 0, none⟩ : Addr).add j) = some u := by
  subst hg; exact cell_one_new w x t
def All1End (n₀ P Q n : Nat) (xs ys : List Value) (x y : Value) (more : Bool) (w : World) (e : Ending) (w' : World) : Prop :=
  e = .returned (.bool more) ∧ (∃ v1 v2, Coll n₀ P Q (n + 1) (n + 1) (xs ++ [x]) (ys ++ [y]) v1 v2 w') ∧ KeepT n₀ w w' ∧ KeepsOthers w w'

set_option maxHeartbeats 2000000 in
theorem all1_any (n₀ P Q E n most : Nat) (k : Int) (A : Option Addr) (X : List UInt8) (cap : Nat) (v1 v2 : Value) (xs ys : List Value) (w : World) (hE : E < n₀) (hP : n₀ ≤ P) (hQ : n₀ ≤ Q) (hPQ : P ≠ Q) (hn₀ : n₀ ≤ w.heap.size)
    (hC : Coll n₀ P Q n n xs ys v1 v2 w) (bE : Boxed w E 3 (.int .i64 (most : Int))) (hn : n ≤ 1099511627776)
    (hX : 0 < X.length → ∃ b off, A = some ⟨b, off, none⟩ ∧ some b ≠ v1.ownBlock ∧ b ≠ P ∧ ∀ j, j < X.length → w.cell? ⟨b, off + j, none⟩ = some (.int .u8 ((X.getD j 0).toNat : Int))) :
    Calls Try.prog 31 #[.int .i64 k, .slice A X.length cap, .pointer (some ⟨P, 0, none⟩), .pointer (some ⟨Q, 0, none⟩), .pointer (some ⟨E, 0, none⟩)] w (All1End n₀ P Q n xs ys (.int .i64 k) (.string ⟨X.toArray⟩) (decide (((n : Int) + 1) < (most : Int))) w) := by
  obtain ⟨i1, hi1, hz10, hz11, hz12⟩ := info_parts (show (Try.prog.info? 3).map (fun i => (i.zero, i.size, i.bytes)) = some (some (.int .i64 0), 1, 8) by kernel_rfl)
  obtain ⟨i2, hi2, hz20, hz21, hz22⟩ := info_parts (show (Try.prog.info? 9).map (fun i => (i.zero, i.size, i.bytes)) = some (some (.string ⟨#[]⟩), 1, 16) by kernel_rfl)
  have cP := hC.bP.cell
  have fP := hC.bP.frozen
  have HC := Lib.hid hC
  clear hC
  go_enter Try.func31, Try.ntmps31
  go_wp2_with (first
    | (at_builtin; refine wpList_append_own _ rfl (.tmp 8) (.tmp 10) _ rfl n₀ 3 i1 _ 1 8 Try.underlying38 hi1 hz10 hz11 hz12 rfl (by decide) v1 n xs rfl (HC.out.r1.alloc _) ⟨w.heap.size, 0, none⟩ 1 1 [.int .i64 k] rfl rfl (cell_one_new _ _ _) (by simp [Value.oneCell']) (by unfold maxLen; omega) (by omega) (by simp; omega) ?_; intro v1' w1 hown' hgrow _; obtain ⟨g', cap', rfl⟩ := ownsRow_succ hown'; obtain ⟨hb1, hC2, hT2, hO2, hcell⟩ := HC.out.step1 hPQ hn₀ hP hown' hgrow; have hc1 := hb1.cell; have hf1 := hb1.frozen; have HC2 := Lib.hid hC2; have HT2 := Lib.hid hT2; have HO2 := Lib.hid hO2; have cQ := hC2.bQ.cell; have fQ := hC2.bQ.frozen; have hs2 : n₀ ≤ (w1.setCell ⟨P, 0, none⟩ (.slice (some ⟨g', 0, none⟩) (n + 1) cap')).heap.size := Nat.le_trans hn₀ hO2.size; have bE2 : Boxed (w1.setCell ⟨P, 0, none⟩ (.slice (some ⟨g', 0, none⟩) (n + 1) cap')) E 3 (.int .i64 (most : Int)) := (hT2.1.block E hE).trans bE; have ks : ∀ t, t = (w1.setCell ⟨P, 0, none⟩ (.slice (some ⟨g', 0, none⟩) (n + 1) cap')) → (convert 22 9 (.slice A X.length cap)).run Try.prog t = .ok (.string ⟨X.toArray⟩) t := (fun t ht => by subst ht; exact run_str_of (P := Try.prog) 22 9 5 cap Try.underlying22 Try.underlying5 Try.underlying9 (fun h0 => by obtain ⟨b, off, e, h1, h2, h3⟩ := hX h0; exact ⟨b, off, e, fun j hj => hcell b _ _ h1 h2 (h3 j hj)⟩)); have KS := ks _ rfl; clear ks hb1 hC2 hT2 hO2 hcell hown' hgrow)
    | (at_builtin; go_loud (refine wpList_append_own _ rfl (.tmp 12) (.tmp 15) _ rfl n₀ 9 i2 _ 1 16 Try.underlying39 hi2 hz20 hz21 hz22 rfl (by decide) v2 n ys rfl (HC2.out.r2.alloc _) ⟨_, 0, none⟩ 1 1 [.string ⟨X.toArray⟩] rfl rfl (cell_one_at _ _ _ _ (by simp)) (by simp [Value.oneCell']) (by unfold maxLen; omega) (by omega) (by simp only [World.size_alloc]; omega) ?_); intro v2' w3 hown3 hgrow3 _; obtain ⟨g3, cap3, rfl⟩ := ownsRow_succ hown3; obtain ⟨hb3, hC3, hT3, hO3⟩ := HC2.out.step2 hPQ hs2 hQ hown3 hgrow3; have hc3 := hb3.cell; have hf3 := hb3.frozen; have HC3 := Lib.hid hC3; have HT3 := Lib.hid (HT2.out.trans hT3); have HO3 := Lib.hid (HO2.out.trans hO3); have cQ3 := hC3.bQ.cell; have cE3 := ((show Boxed _ E 3 (.int .i64 (most : Int)) from (hT3.1.block E hE).trans bE2)).cell; clear hb3 hC3 hT3 hO3 hown3 hgrow3))
  go_ret
  exact ⟨rfl, ⟨_, _, HC3.out⟩, HT3.out, HO3.out⟩
end Go.Proofs.Ytpkbjiakjofcnaa
