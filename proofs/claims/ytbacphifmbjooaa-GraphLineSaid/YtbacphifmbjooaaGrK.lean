/- Lists of numbers in memory, lists of them; the small functions of graph, of its document and of its laws. -/
import Derived.Test.YtbacphifmbjooaaBytes
import Derived.Test.YtbacphifmbjooaaArgs
import Derived.Test.YtbacphifmbjooaaGrM
import Derived.Deep.Matrix
import Derived.Deep.OwnRows
import Derived.Deep.LoopGhost
import Derived.BigQuiet
import Derived.ProofKit
namespace Go.Proofs.Ytbacphifmbjooaa
open Go.RowKit

theorem alloc_size (w : World) (o : Obj) : (w.alloc o).heap.size = w.heap.size + 1 := by simp
theorem below_alloc (w : World) (o : Obj) : Below w.heap.size w (w.alloc o) := (Below.refl _ w).alloc (Nat.le_refl _) o
theorem below_drw {B : Nat} {w w' : World} (h : Below B w w') (q : Nat) : Below B w (w'.drewN q) := h.trans ⟨rfl, rfl, rfl, Nat.le_refl _, fun _ _ => rfl⟩
theorem own_blk {w : World} {B : Nat} {e : TypeId} {z : Nat} {v : Value} {n : Nat} {xs : List Value} (h : w.ownsRow B e z v n xs) : ∀ b, v.ownBlock = some b → B ≤ b ∧ b < w.heap.size := h.lt
theorem own_stay {w w' : World} {B : Nat} {e : TypeId} {z : Nat} {v : Value} {n : Nat} {xs : List Value} (h : w.ownsRow B e z v n xs) (hb : ∀ k, v.ownBlock = some k → w'.heap[k]? = w.heap[k]?) : w'.ownsRow B e z v n xs := by
  refine ⟨h.1, ?_⟩
  rcases h.2 with hn | ⟨k, cap, cur, hv, hbg, hk, rest⟩
  · exact .inl hn
  · exact .inr ⟨k, cap, cur, hv, hbg, (hb k (by rw [hv]; rfl)).trans hk, rest⟩
theorem own_later {w w' : World} {B : Nat} {e : TypeId} {z : Nat} {v : Value} {n : Nat} {xs : List Value} (h : w.ownsRow B e z v n xs) (hb : Below w.heap.size w w') : w'.ownsRow B e z v n xs := own_stay h fun k hk => hb.block k (h.lt k hk).2
theorem own_low {w : World} {B B' : Nat} {e : TypeId} {z : Nat} {v : Value} {n : Nat} {xs : List Value} (h : w.ownsRow B e z v n xs) (hB : B' ≤ B) : w.ownsRow B' e z v n xs := by
  refine ⟨h.1, ?_⟩
  rcases h.2 with h2 | ⟨g, cap, cur, hv, hb, h3⟩
  · exact .inl h2
  · exact .inr ⟨g, cap, cur, hv, Nat.le_trans hB hb, h3⟩
theorem below_own {B : Nat} {w w' : World} {e : TypeId} {z n : Nat} {v : Value} {xs : List Value} (h : w.ownsRow B e z v n xs) (hg : w.grownBy w' v.ownBlock) (hB : B ≤ w.heap.size) : Below B w w' :=
  (Below.refl _ _).grown hg hB fun k hk => (h.lt k hk).1
theorem row_later {w w' : World} {b : Nat} {t : TypeId} {n : Nat} {f : Nat → Value} (h : w.rowIs b t n f) (hb : Below w.heap.size w w') : w'.rowIs b t n f := h.of_block (hb.block b h.lt)
theorem row_grown {w w' : World} {b : Nat} {t : TypeId} {n : Nat} {f : Nat → Value} {r : Option Nat} (h : w.rowIs b t n f) (hg : w.grownBy w' r) (hr : r ≠ some b) : w'.rowIs b t n f := h.of_block (hg.block b h.lt (fun e => hr e.symm))

section
variable {α : Type} {f : α → Value} {d : α} {w : World}
theorem els_own {B : Nat} {e : TypeId} {v : Value} {l : List α} (h : w.ownsRow B e 1 v l.length (l.map f)) : ∃ A cap, v = .slice A l.length cap ∧ l.length ≤ cap ∧ Els f d w A l ∧ (A = none → cap = 0) := by
  have h' := h
  rcases h.2 with ⟨rfl, hn⟩ | ⟨g, cap, cur, rfl, hbg, hg, hnc, hcm, rest⟩
  · exact ⟨none, 0, by rw [hn], by omega, fun hp => absurd hp (by omega), fun _ => rfl⟩
  · refine ⟨_, cap, rfl, hnc, fun _ => ⟨g, 0, rfl, fun j hj => ?_⟩, fun h => by cases h⟩
    rw [Nat.zero_add, h'.cellAt j (by omega)]
    rw [List.getElem?_map, List.getElem?_eq_getElem hj, List.getD_eq_getElem?_getD, List.getElem?_eq_getElem hj]
    rfl
theorem els_cells {ad : Addr} {l : List α} (h : Els f d w (some ad) l) : ∀ j u, (l.map f)[j]? = some u → w.cell? (ad.add j) = some u := by
  intro j u hu
  have hj : j < l.length := by
    have := (List.getElem?_eq_some_iff.1 hu).1
    rwa [List.length_map] at this
  obtain ⟨b, off, e, hc⟩ := h (by omega)
  injection e with e
  subst e
  have e2 : (⟨b, off, none⟩ : Addr).add j = ⟨b, off + j, none⟩ := by unfold Addr.add; split <;> simp_all
  rw [e2, hc j hj, ← hu, List.getElem?_map, List.getElem?_eq_getElem hj, List.getD_eq_getElem?_getD, List.getElem?_eq_getElem hj]
  rfl
end
/-- The cells of a list of numbers. -/
def zs (l : List Int) : List Value := l.map fun z => .int .i64 z
/-- A row of the call's own that holds these numbers. -/
abbrev OwnZ (w : World) (B : Nat) (v : Value) (l : List Int) : Prop := w.ownsRow B 3 1 v l.length (zs l)
theorem info_int : (Try.prog.info? 3).map (fun i => (i.zero, i.size, i.bytes)) = some (some (.int .i64 0), 1, 8) := by kernel_rfl
theorem info_bool : (Try.prog.info? 4).map (fun i => (i.zero, i.size, i.bytes)) = some (some (.bool false), 1, 1) := by kernel_rfl
theorem info_ints : (Try.prog.info? 26).map (fun i => (i.zero, i.size, i.bytes)) = some (some (.slice none 0 0), 1, 24) := by kernel_rfl
theorem mk_bools (n : Nat) (hn : n ≤ 1000000) (u : World) : (Instr.makeSlice 35 (.int .i64 (n : Int)) (.int .i64 (n : Int))).run Try.prog u = .ok (.slice (some ⟨u.heap.size, 0, none⟩) n n) (u.alloc (.cells (madeCells #[.bool false] n) 4)) :=
  run_make_row' (P := Try.prog) 35 4 (.bool false) 1 Try.underlying35 info_bool rfl .i64 .i64 n (by omega) (by omega) u
theorem mk_ints (n : Nat) (hn : n ≤ 1000000) (u : World) : (Instr.makeSlice 26 (.int .i64 (n : Int)) (.int .i64 (n : Int))).run Try.prog u = .ok (.slice (some ⟨u.heap.size, 0, none⟩) n n) (u.alloc (.cells (madeCells #[.int .i64 0] n) 3)) :=
  run_make_row' (P := Try.prog) 26 3 (.int .i64 0) 8 Try.underlying26 info_int rfl .i64 .i64 n (by omega) (by omega) u
theorem mk_lists (n : Nat) (hn : n ≤ 1000000) (u : World) : (Instr.makeSlice 22 (.int .i64 (n : Int)) (.int .i64 (n : Int))).run Try.prog u = .ok (.slice (some ⟨u.heap.size, 0, none⟩) n n) (u.alloc (.cells (madeCells #[.slice none 0 0] n) 26)) :=
  run_make_row' (P := Try.prog) 22 26 (.slice none 0 0) 24 Try.underlying22 info_ints rfl .i64 .i64 n (by omega) (by omega) u
/-- One cell in a block of its own: what buildSlice lays ahead of an append. -/
theorem one_cell (w : World) (v : Value) (t : TypeId) : ∀ j u, [v][j]? = some u → (w.alloc (.cells #[v] t)).cell? ((⟨w.heap.size, 0, none⟩ : Addr).add j) = some u := by
  intro j u hj
  match j, hj with
  | 0, hj => simp at hj; subst hj; simp [Addr.add]
  | j + 1, hj => simp at hj
theorem one_cell_at {w : World} {g : Nat} (hg : w.heap.size = g) (v : Value) (t : TypeId) : ∀ j u, [v][j]? = some u → (w.alloc (.cells #[v] t)).cell? ((⟨g, 0, none⟩ : Addr).add j) = some u := by
  subst hg; exact one_cell w v t

/-- A slice that holds these numbers. -/
def RowV (w : World) (v : Value) (l : List Int) : Prop := ∃ B c, v = .slice B l.length c ∧ l.length ≤ c ∧ l.length ≤ 17592186044416 ∧ Is w B l ∧ (B = none → c = 0) ∧ (∀ z ∈ l, -9223372036854775808 ≤ z ∧ z ≤ 9223372036854775807)
theorem RowV.below {w w' : World} {v : Value} {l : List Int} (h : RowV w v l) (hb : Below w.heap.size w w') : RowV w' v l := by
  obtain ⟨B, c, h1, h2, h3, h4, h5⟩ := h
  exact ⟨B, c, h1, h2, h3, h4.below hb, h5⟩
theorem RowV.nil (w : World) : RowV w (.slice none 0 0) [] := ⟨none, 0, rfl, Nat.le_refl _, by simp, Els.nil _ _, fun _ => rfl, by simp⟩
theorem RowV.of_own {w : World} {B : Nat} {v : Value} {l : List Int} (h : OwnZ w B v l) (hl : l.length ≤ 17592186044416) (hz : ∀ z ∈ l, -9223372036854775808 ≤ z ∧ z ≤ 9223372036854775807) : RowV w v l := by
  obtain ⟨A, cap, e, h1, h2, h3⟩ := els_own (d := (0 : Int)) h
  exact ⟨A, cap, e, h1, hl, h2, h3, hz⟩
/-- Lists of numbers that lie where the slice begins. -/
def LL (w : World) (A : Option Addr) (L : List (List Int)) : Prop := ∃ V : Nat → Value, (0 < L.length → ∃ b off, A = some ⟨b, off, none⟩ ∧ ∀ j, j < L.length → w.cell? ⟨b, off + j, none⟩ = some (V j)) ∧ ∀ j, j < L.length → RowV w (V j) (rowL L j)
theorem LL.below {w w' : World} {A : Option Addr} {L : List (List Int)} (h : LL w A L) (hb : Below w.heap.size w w') : LL w' A L := by
  obtain ⟨V, h1, h2⟩ := h
  refine ⟨V, fun h0 => ?_, fun j hj => (h2 j hj).below hb⟩
  obtain ⟨b, off, e, hc⟩ := h1 h0
  refine ⟨b, off, e, fun j hj => ?_⟩
  have hl : b < w.heap.size := by
    have := hc 0 h0
    rcases Nat.lt_or_ge b w.heap.size with hlt | hge
    · exact hlt
    · simp [World.cell?, Array.getElem?_eq_none hge] at this
  exact (hb.cell (p := ⟨b, off + j, none⟩) hl).trans (hc j hj)
theorem LL.nil (w : World) (A : Option Addr) : LL w A [] := ⟨fun _ => undef, fun h => absurd h (by simp), fun j h => absurd h (by simp)⟩
/-- One of them. -/
theorem LL.at {w : World} {A : Option Addr} {L : List (List Int)} (h : LL w A L) {j : Nat} (hj : j < L.length) : ∃ b off B c, A = some ⟨b, off, none⟩ ∧ w.cell? ⟨b, off + j, none⟩ = some (.slice B (rowL L j).length c) ∧ (rowL L j).length ≤ c ∧ (rowL L j).length ≤ 17592186044416 ∧ Is w B (rowL L j) ∧ (B = none → c = 0) ∧ (∀ z ∈ rowL L j, -9223372036854775808 ≤ z ∧ z ≤ 9223372036854775807) := by
  obtain ⟨V, h1, h2⟩ := h
  obtain ⟨b, off, e, hc⟩ := h1 (by omega)
  obtain ⟨B, c, k1, k2⟩ := h2 j hj
  exact ⟨b, off, B, c, e, by rw [hc j hj, k1], k2⟩

/-- How a list in new memory ends. -/
def OwnInts (w : World) (l : List Int) (e : Ending) (w' : World) : Prop :=
  ∃ A cap, e = .returned (.slice A l.length cap) ∧ l.length ≤ cap ∧ Is w' A l ∧ (A = none → cap = 0) ∧ OwnZ w' w.heap.size (.slice A l.length cap) l ∧ Below w.heap.size w w'
theorem own_ints {w w1 : World} {v : Value} {l : List Int} (h : OwnZ w1 w.heap.size v l) (hb : Below w.heap.size w w1) : OwnInts w l (.returned v) w1 := by
  obtain ⟨A, cap, rfl, h1, h2, h3⟩ := els_own (d := (0 : Int)) h
  exact ⟨A, cap, rfl, h1, h2, h3, h, hb⟩
set_option maxHeartbeats 400000 in
theorem ints_any (A : Option Addr) (L : List Int) (cap : Nat) (w : World) (hl : L.length ≤ 17592186044416) (hB : Is w A L) (hcap : A = none → cap = 0) :
    Calls Try.prog 17 #[.slice A L.length cap] w (OwnInts w L) := by
  obtain ⟨i0, hi, hz0, hz1, hz2⟩ := info_parts info_int
  cases A with
  | none =>
    obtain rfl := hcap rfl
    have h0 : L = [] := by
      cases L with
      | nil => rfl
      | cons c L => obtain ⟨b, off, e, _⟩ := hB (by simp); cases e
    subst h0
    go_enter Try.func17, Try.ntmps17
    go_wp2_with (at_builtin; refine wpList_append_own_none rfl _ _ _ rfl w.heap.size 3 i0 1 Try.underlying26 hi (.slice none 0 0) 0 [] rfl (World.ownsRow_nil _ _ _ _) rfl ?_)
    go_ret
    exact own_ints (l := []) (World.ownsRow_nil _ _ _ _) (Below.refl _ _)
  | some ad =>
    have hc := els_cells hB
    have ho : ∀ u ∈ L.map (fun z => Value.int .i64 z), u.oneCell' = true := fun u hu => by obtain ⟨x, _, rfl⟩ := List.mem_map.1 hu; rfl
    have HC := Lib.hid hc
    have HO := Lib.hid ho
    clear hc ho hB hcap
    go_enter Try.func17, Try.ntmps17
    go_wp2_with (at_builtin; refine wpList_append_own _ rfl _ _ _ rfl w.heap.size 3 i0 _ 1 8 Try.underlying26 hi hz0 hz1 hz2 rfl (by omega) (.slice none 0 0) 0 [] rfl (World.ownsRow_nil _ _ _ _) ad L.length cap (L.map fun z => Value.int .i64 z) rfl (by rw [List.length_map]; omega) HC.out HO.out (by unfold maxLen; omega) (by omega) (Nat.le_refl _) ?_; intro v1 w1 hown1 hg1 _)
    have HR := Lib.hid (own_ints (by rw [Nat.zero_add, List.nil_append] at hown1; exact hown1) (below_own (World.ownsRow_nil w w.heap.size 3 1) hg1 (Nat.le_refl _)))
    clear hown1 hg1
    go_ret
    exact HR.out

/-! The small functions -/
set_option maxHeartbeats 400000 in
theorem within_any (k : Int) (n : Nat) (w : World) :
    Calls Try.prog 28 #[.int .i64 k, .int .i64 (n : Int)] w fun e w' => e = .returned (.bool (inn n k)) ∧ w' = w := by
  unfold inn
  by_cases h0 : 0 ≤ k
  · by_cases h1 : k < (n : Int)
    · rw [decide_eq_true (by exact ⟨h0, h1⟩)]
      go_enter Try.func28, Try.ntmps28
      go_wp2
      go_ret
      exact ⟨rfl, rfl⟩
    · rw [decide_eq_false (by omega)]
      go_enter Try.func28, Try.ntmps28
      go_wp2
      go_ret
      exact ⟨rfl, rfl⟩
  · rw [decide_eq_false (by omega)]
    go_enter Try.func28, Try.ntmps28
    go_wp2
    go_ret
    exact ⟨rfl, rfl⟩
/-- There may be so many. -/
def mayB (n : Int) : Bool := decide (0 ≤ n ∧ n ≤ 4096)
set_option maxHeartbeats 400000 in
theorem fits_any (n : Int) (w : World) : Calls Try.prog 21 #[.int .i64 n] w fun e w' => e = .returned (.bool (mayB n)) ∧ w' = w := by
  unfold mayB
  by_cases h0 : 0 ≤ n
  · by_cases h1 : n ≤ 4096
    · rw [decide_eq_true (by exact ⟨h0, h1⟩)]
      go_enter Try.func21, Try.ntmps21
      go_wp2
      go_ret
      exact ⟨rfl, rfl⟩
    · rw [decide_eq_false (by omega)]
      go_enter Try.func21, Try.ntmps21
      go_wp2
      go_ret
      exact ⟨rfl, rfl⟩
  · rw [decide_eq_false (by omega)]
    go_enter Try.func21, Try.ntmps21
    go_wp2
    go_ret
    exact ⟨rfl, rfl⟩
set_option maxHeartbeats 400000 in
theorem may_any (n : Int) (w : World) : Calls Try.prog 23 #[.int .i64 n] w fun e w' => e = .returned (.bool (mayB n)) ∧ w' = w := by
  unfold mayB
  by_cases h0 : 0 ≤ n
  · by_cases h1 : n ≤ 4096
    · rw [decide_eq_true (by exact ⟨h0, h1⟩)]
      go_enter Try.func23, Try.ntmps23
      go_wp2
      go_ret
      exact ⟨rfl, rfl⟩
    · rw [decide_eq_false (by omega)]
      go_enter Try.func23, Try.ntmps23
      go_wp2
      go_ret
      exact ⟨rfl, rfl⟩
  · rw [decide_eq_false (by omega)]
    go_enter Try.func23, Try.ntmps23
    go_wp2
    go_ret
    exact ⟨rfl, rfl⟩
/-- What one needs, as the document's own answer looks it up. -/
def NeedEnd (w : World) (l : List Int) (e : Ending) (w' : World) : Prop := ∃ B c, e = .returned (.slice B l.length c) ∧ l.length ≤ c ∧ l.length ≤ 17592186044416 ∧ Is w B l ∧ (B = none → c = 0) ∧ w' = w
set_option maxHeartbeats 400000 in
theorem needs_any (A : Option Addr) (L : List (List Int)) (cap i : Nat) (w : World) (hL : LL w A L) :
    Calls Try.prog 29 #[.slice A L.length cap, .int .i64 (i : Int)] w (NeedEnd w (rowL L i)) := by
  by_cases h : i < L.length
  · have hz : (i : Int) < (L.length : Int) := by omega
    obtain ⟨b, off, B, c, rfl, hc, h1, h2, h3, h4, _⟩ := hL.at h
    have H3 := Lib.hid h3
    have H4 := Lib.hid h4
    clear hL h3 h4
    generalize rowL L i = l at *
    go_enter Try.func29, Try.ntmps29
    go_wp2
    go_ret
    exact ⟨B, c, rfl, h1, h2, H3.out, H4.out, rfl⟩
  · have hz : ¬ (i : Int) < (L.length : Int) := by omega
    rw [rowL_out (by omega)]
    clear hL
    go_enter Try.func29, Try.ntmps29
    go_wp2
    go_ret
    exact ⟨none, 0, rfl, Nat.le_refl _, by simp, Els.nil _ _, fun _ => rfl, rfl⟩
end Go.Proofs.Ytbacphifmbjooaa
