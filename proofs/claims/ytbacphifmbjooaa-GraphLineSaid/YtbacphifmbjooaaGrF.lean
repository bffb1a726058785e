/- Lists of lists of numbers that came in, opened. -/
import Derived.Test.YtbacphifmbjooaaGrA
namespace Go.Proofs.Ytbacphifmbjooaa
open Go.ChangeShapes Go.WideShapes Go.ChangeAt Go.RowKit

theorem mem_weights {H : Type} {P : Program} {e : TypeId} {d : DataW H} {n : Nat} (hn : n ∈ d.weights P e) : ∀ {l : List (DataW H)}, d ∈ l → n ∈ DataW.weightsAll P e l
  | [], h => by cases h
  | x :: l, h => by
    unfold DataW.weightsAll
    rcases List.mem_cons.1 h with rfl | h
    · exact List.mem_append_left _ hn
    · exact List.mem_append_right _ (mem_weights hn h)
theorem is_of_cells {w : World} {a : Addr} {zs : List Int} {len : Nat} (hl : len ≤ zs.length) (hc : ∀ i, i < zs.length → w.cell? (a.add i) = some (.int .i64 (zs.getD i 0))) : Is w (some a) (zs.take len) := Els.of_cells hl hc
theorem open_lists {H : Type} {enc : TypeId × Value → H} {P : Program} {w : World} {base : Nat} {t e q : TypeId} {v : Value} {d : DataW H} {p : List MemPlace} (ht : P.underlying t = some (.slice e)) (he : P.underlying e = some (.slice q)) (hq : P.underlying q = some (.int .i64)) (ce : P.cellsOf e = 1) (cq : P.cellsOf q = 1) (be : P.bytesOf e = 24) (bq : P.bytesOf q = 8)
    (hval : Value.okWide P w .any base t v) (h : DataW.Trod enc P w 0 (fun _ => true) true t v d p) (hw : ∀ k ∈ d.weights P t, k ≤ reachBytes) :
    ∃ (A : Option Addr) (L : List (List Int)) (cap : Nat), v = .slice A L.length cap ∧ L.length ≤ cap ∧ L.length ≤ 5864062014805 ∧ LL w A L := by
  obtain ⟨a0, len0, cap0, rfl⟩ := okWide_slice ht hval
  obtain ⟨fuel, hf⟩ := h
  rcases Go.Deep.open_int_rows ht he hq ce cq hf with ⟨hcs, hx⟩ | ⟨a, len, cap, A, Lf, C, Z, hcs, _, hl, hm, hx, hall⟩
  · simp [Value.cells] at hcs
    obtain ⟨rfl, rfl, rfl⟩ := hcs
    exact ⟨none, [], 0, rfl, Nat.le_refl _, by simp, LL.nil _ _⟩
  · simp [Value.cells] at hcs
    obtain ⟨rfl, rfl, rfl⟩ := hcs
    simp only [Prod.mk.injEq] at hx
    obtain ⟨rfl, rfl⟩ := hx
    unfold DataW.weights at hw
    rw [ht] at hw
    dsimp only at hw
    have h0 := hw _ List.mem_cons_self
    simp only [List.length_map, List.length_range, be, reachBytes] at h0
    have hrow : ∀ r, r < len0 → (Z r).length ≤ 17592186044416 := fun r hr => by
      obtain ⟨_, _, _, k4, _, k6, _⟩ := hall r (by omega)
      cases hA : A r with
      | none => rw [k4, k6 hA]; simp
      | some a' =>
        have hmem : Go.Deep.intRow (H := H) .i64 (A r) (Lf r) (Z r) ∈ (List.range len0).map fun r => Go.Deep.intRow (H := H) .i64 (A r) (Lf r) (Z r) := List.mem_map.2 ⟨r, List.mem_range.2 hr, rfl⟩
        have hn : (Z r).length * 8 ∈ (Go.Deep.intRow (H := H) .i64 (A r) (Lf r) (Z r)).weights P e := by
          rw [hA]
          show _ ∈ DataW.weights P e (.slice _ _)
          unfold DataW.weights
          rw [he]
          dsimp only
          rw [bq]
          refine List.mem_cons.2 (.inl ?_)
          simp only [lits, List.length_map, List.length_take, List.length_drop]
          congr 1
          omega
        have := hw _ (List.mem_cons_of_mem _ (List.mem_append_left _ (mem_weights hn hmem)))
        simp only [reachBytes] at this
        omega
    obtain ⟨b, off, spot⟩ := a
    have hlen : ((List.range len0).map fun r => (Z r).take (Lf r)).length = len0 := by rw [List.length_map, List.length_range]
    refine ⟨_, (List.range len0).map fun r => (Z r).take (Lf r), cap0, by rw [hlen], by omega, by omega, fun r => .slice (A r) (Lf r) (C r), fun hp => ?_, fun j hj => ?_⟩
    · have hspot : spot = none := by
        have := (hall 0 (by omega)).1
        simpa [Addr.add] using World.cell?_spot this
      subst hspot
      refine ⟨b, off, rfl, fun j hj => ?_⟩
      rw [hlen] at hj
      have := (hall j (by omega)).1
      rwa [add_plain] at this
    · rw [hlen] at hj
      have er : rowL ((List.range len0).map fun r => (Z r).take (Lf r)) j = (Z j).take (Lf j) := by
        unfold rowL
        rw [List.getD_eq_getElem?_getD, List.getElem?_map, List.getElem?_range hj]
        rfl
      obtain ⟨k1, k2, k3, k4, k5, k6, k7⟩ := hall j (by omega)
      have hr := hrow j hj
      have el : ((Z j).take (Lf j)).length = Lf j := by rw [List.length_take]; omega
      rw [er]
      refine ⟨A j, C j, by rw [el], by omega, by omega, ?_, k6, fun z hz => bounds_i64 (k5 z (List.mem_of_mem_take hz))⟩
      cases hA : A j with
      | none =>
        have : Lf j = 0 := by have := k6 hA; omega
        rw [this]
        exact Els.nil _ _
      | some a' => exact is_of_cells (by omega) (fun c hc => (k7 a' hA).2 c (by omega))
end Go.Proofs.Ytbacphifmbjooaa
