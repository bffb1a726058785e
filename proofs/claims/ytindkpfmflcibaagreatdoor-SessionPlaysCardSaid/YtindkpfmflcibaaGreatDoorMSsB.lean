/- Rows of numbers of the call's own; SameInts. -/
import Derived.Test.YtindkpfmflcibaaGreatDoorMArgs
import Derived.Deep.LoopGhost
import Derived.BigQuiet
import Derived.ProofKit
namespace Go.Proofs.YtindkpfmflcibaaGreatDoor
namespace Ss
open Go.RowKit

theorem getD_at {α : Type} {l : List α} {k : Nat} {d : α} (h : k < l.length) : l.getD k d = l[k] := by rw [List.getD_eq_getElem?_getD, List.getElem?_eq_getElem h]; rfl
theorem alloc_size (w : World) (o : Obj) : (w.alloc o).heap.size = w.heap.size + 1 := by simp
theorem below_alloc (w : World) (o : Obj) : Below w.heap.size w (w.alloc o) := (Below.refl _ w).alloc (Nat.le_refl _) o
theorem below_drw {B : Nat} {w w' : World} (h : Below B w w') (q : Nat) : Below B w (w'.drewN q) := h.trans ⟨rfl, rfl, rfl, Nat.le_refl _, fun _ _ => rfl⟩
theorem own_blk {w : World} {B : Nat} {e : TypeId} {z : Nat} {v : Value} {n : Nat} {xs : List Value} (h : w.ownsRow B e z v n xs) : ∀ b, v.ownBlock = some b → B ≤ b ∧ b < w.heap.size := h.lt
theorem own_stay {w w' : World} {B : Nat} {e : TypeId} {z : Nat} {v : Value} {n : Nat} {xs : List Value} (h : w.ownsRow B e z v n xs) (hb : ∀ k, v.ownBlock = some k → w'.heap[k]? = w.heap[k]?) : w'.ownsRow B e z v n xs := by
  refine ⟨h.1, ?_⟩
  rcases h.2 with hn | ⟨k, cap, cur, hv, hbg, hk, rest⟩
  · exact .inl hn
  · exact .inr ⟨k, cap, cur, hv, hbg, (hb k (by rw [hv]; rfl)).trans hk, rest⟩
theorem own_later {w w' : World} {B : Nat} {e : TypeId} {z : Nat} {v : Value} {n : Nat} {xs : List Value} (h : w.ownsRow B e z v n xs) (hb : Below w.heap.size w w') : w'.ownsRow B e z v n xs := own_stay h fun k hk => hb.block k (h.lt k hk).2
theorem own_low {w : World} {B B' : Nat} {e : TypeId} {z : Nat} {v : Value} {n : Nat} {xs : List Value} (h : w.ownsRow B e z v n xs) (hB : B' ≤ B) : w.ownsRow B' e z v n xs := by
  refine ⟨h.1, ?_⟩
  rcases h.2 with h2 | ⟨g, cap, cur, hv, hb, h3⟩
  · exact .inl h2
  · exact .inr ⟨g, cap, cur, hv, Nat.le_trans hB hb, h3⟩
theorem below_own {B : Nat} {w w' : World} {e : TypeId} {z n : Nat} {v : Value} {xs : List Value} (h : w.ownsRow B e z v n xs) (hg : w.grownBy w' v.ownBlock) (hB : B ≤ w.heap.size) : Below B w w' :=
  (Below.refl _ _).grown hg hB fun k hk => (h.lt k hk).1
section
variable {α : Type} {f : α → Value} {d : α} {w : World}
theorem els_own {B : Nat} {e : TypeId} {v : Value} {l : List α} (h : w.ownsRow B e 1 v l.length (l.map f)) : ∃ A cap, v = .slice A l.length cap ∧ l.length ≤ cap ∧ Els f d w A l ∧ (A = none → cap = 0) := by
  have h' := h
  rcases h.2 with ⟨rfl, hn⟩ | ⟨g, cap, cur, rfl, hbg, hg, hnc, hcm, rest⟩
  · exact ⟨none, 0, by rw [hn], by omega, fun hp => absurd hp (by omega), fun _ => rfl⟩
  · refine ⟨_, cap, rfl, hnc, fun _ => ⟨g, 0, rfl, fun j hj => ?_⟩, fun h => by cases h⟩
    rw [Nat.zero_add, h'.cellAt j (by omega)]
    rw [List.getElem?_map, List.getElem?_eq_getElem hj, List.getD_eq_getElem?_getD, List.getElem?_eq_getElem hj]
    rfl
theorem els_cells {ad : Addr} {l : List α} (h : Els f d w (some ad) l) : ∀ j u, (l.map f)[j]? = some u → w.cell? (ad.add j) = some u := by
  intro j u hu
  have hj : j < l.length := by
    have := (List.getElem?_eq_some_iff.1 hu).1
    rwa [List.length_map] at this
  obtain ⟨b, off, e, hc⟩ := h (by omega)
  injection e with e
  subst e
  have e2 : (⟨b, off, none⟩ : Addr).add j = ⟨b, off + j, none⟩ := by unfold Addr.add; split <;> simp_all
  rw [e2, hc j hj, ← hu, List.getElem?_map, List.getElem?_eq_getElem hj, List.getD_eq_getElem?_getD, List.getElem?_eq_getElem hj]
  rfl
end
/-- The cells of a list of numbers. -/
def zs (l : List Int) : List Value := l.map fun z => .int .i64 z
/-- A row of the call's own that holds these numbers. -/
abbrev OwnZ (w : World) (B : Nat) (v : Value) (l : List Int) : Prop := w.ownsRow B 3 1 v l.length (zs l)
theorem info_int : (Tryz.prog.info? 3).map (fun i => (i.zero, i.size, i.bytes)) = some (some (.int .i64 0), 1, 8) := by kernel_rfl
/-- One cell in a block of its own: what buildSlice lays ahead of an append. -/
theorem one_cell (w : World) (v : Value) (t : TypeId) : ∀ j u, [v][j]? = some u → (w.alloc (.cells #[v] t)).cell? ((⟨w.heap.size, 0, none⟩ : Addr).add j) = some u := by
  intro j u hj
  match j, hj with
  | 0, hj => simp at hj; subst hj; simp [Addr.add]
  | j + 1, hj => simp at hj
theorem one_cell_at {w : World} {g : Nat} (hg : w.heap.size = g) (v : Value) (t : TypeId) : ∀ j u, [v][j]? = some u → (w.alloc (.cells #[v] t)).cell? ((⟨g, 0, none⟩ : Addr).add j) = some u := by
  subst hg; exact one_cell w v t

/-- How a list in new memory ends. -/
def OwnInts (w : World) (l : List Int) (e : Ending) (w' : World) : Prop :=
  ∃ A cap, e = .returned (.slice A l.length cap) ∧ l.length ≤ cap ∧ Is w' A l ∧ (A = none → cap = 0) ∧ OwnZ w' w.heap.size (.slice A l.length cap) l ∧ Below w.heap.size w w'
theorem own_ints {w w1 : World} {v : Value} {l : List Int} (h : OwnZ w1 w.heap.size v l) (hb : Below w.heap.size w w1) : OwnInts w l (.returned v) w1 := by
  obtain ⟨A, cap, rfl, h1, h2, h3⟩ := els_own (d := (0 : Int)) h
  exact ⟨A, cap, rfl, h1, h2, h3, h, hb⟩
theorem is_at {w : World} {A : Option Addr} {l : List Int} (h : Is w A l) {k : Nat} (hk : k < l.length) : ∃ b off, A = some ⟨b, off, none⟩ ∧ w.cell? ⟨b, off + k, none⟩ = some (.int .i64 l[k]) := by
  obtain ⟨b, off, e, hc⟩ := h (by omega)
  exact ⟨b, off, e, by rw [hc k hk, getD_at hk]⟩
set_option maxHeartbeats 2000000 in
theorem same_any (A B : Option Addr) (X Y : List Int) (ca cb : Nat) (w : World) (hl : X.length ≤ 17592186044416) (hA : Is w A X) (hB : Is w B Y) :
    Calls Tryz.prog 11 #[.slice A X.length ca, .slice B Y.length cb] w fun e w' => e = .returned (.bool (decide (X = Y))) ∧ Below w.heap.size w w' := by
  by_cases hlen : X.length = Y.length
  · have HA := Lib.hid hA
    have HB := Lib.hid hB
    have HE := Lib.hid hlen
    generalize hF : decide (X = Y) = F
    have HF := Lib.hid hF
    obtain ⟨N, hN⟩ : ∃ N, N = X.length := ⟨_, rfl⟩
    have hl2 : N ≤ 17592186044416 := by omega
    have HN := Lib.hid hN
    rw [← hlen, ← hN]
    clear hF hA hB hlen hN
    go_enter Tryz.func11, Tryz.ntmps11
    go_wp2_with fail
    go_loopg [5] (N) (fun m s5 wr => ∃ k : Nat, k + m = N ∧ s5 = .int .i64 (k : Int) ∧ Hid (∀ j, j < k → X[j]? = Y[j]?) ∧ Hid (Below w.heap.size w wr))
    case atStart => exact ⟨0, by omega, rfl, Lib.hid fun j hj => by omega, Lib.hid (Below.refl _ _)⟩
    case round =>
      obtain ⟨k, hkm, rfl, HK, HW⟩ := hrel
      have HKM := Lib.hid hkm
      by_cases hk : k < N
      · have hkz : (k : Int) < (N : Int) := by omega
        have hkx : k < X.length := by rw [← HN.out]; exact hk
        have hky : k < Y.length := by rw [← HE.out]; exact hkx
        obtain ⟨b, off, rfl, hc⟩ := is_at (HA.out.below HW.out) hkx
        obtain ⟨b2, off2, rfl, hc2⟩ := is_at (HB.out.below HW.out) hky
        have HXe := Lib.hid (List.getElem?_eq_getElem hkx)
        have HYe := Lib.hid (List.getElem?_eq_getElem hky)
        generalize X[k] = x at *
        generalize Y[k] = y at *
        clear hkm hkx hky
        by_cases hxy : x = y
        · subst hxy
          have HS := Lib.hid (show ∀ j, j < k + 1 → X[j]? = Y[j]? from fun j hj => by
            by_cases e : j = k
            · subst e; rw [HXe.out, HYe.out]
            · exact HK.out j (by omega))
          have hne : (x != x) = false := by simp
          go_wp2_with fail
          go_quiet (fail)
          go_wp2_with fail
          go_roundg (N - (k + 1))
          case measure => have := HKM.out; omega
          case rel => exact ⟨k + 1, by have := HKM.out; omega, by go_num, HS, Lib.hid (below_drw HW.out _)⟩
        · have hne : (x != y) = true := by simpa using hxy
          have H0 := Lib.hid (show false = F by
            rw [← HF.out]
            exact (decide_eq_false (fun e => hxy (by have := HXe.out.symm.trans ((congrArg (fun l => l[k]?) e).trans HYe.out); simpa using this))).symm)
          clear hxy
          go_wp2_with fail
          go_quiet (fail)
          go_wp2_with fail
          go_ret
          exact ⟨by rw [← H0.out]; rfl, below_drw HW.out _⟩
      · have hkz : ¬ (k : Int) < (N : Int) := by omega
        have H0 := Lib.hid (show true = F by
          rw [← HF.out]
          refine (decide_eq_true ?_).symm
          refine List.ext_getElem? fun j => ?_
          by_cases hj : j < k
          · exact HK.out j hj
          · have h1 := HN.out
            have h2 := HE.out
            rw [List.getElem?_eq_none (by omega), List.getElem?_eq_none (by omega)])
        clear hkm
        go_wp2_with fail
        go_ret
        exact ⟨by rw [← H0.out]; rfl, HW.out⟩
  · have hz : ((X.length : Int) != (Y.length : Int)) = true := by simp; omega
    rw [decide_eq_false (fun e => hlen (by rw [e]))]
    clear hA hB hlen
    generalize X.length = p at *
    generalize Y.length = q at *
    go_enter Tryz.func11, Tryz.ntmps11
    go_wp2
    go_ret
    exact ⟨rfl, Below.refl _ _⟩

/-- A number more in a row of the call's own. -/
theorem zs_snoc (l : List Int) (z : Int) : zs l ++ [.int .i64 z] = zs (l ++ [z]) := by simp [zs]
end Ss
end Go.Proofs.YtindkpfmflcibaaGreatDoor
