/- Several texts in one: RtM, RtF, RtK, RtP. -/
import Derived.Test.YtindkpfmflcibaaGreatDoorSE
import Derived.Test.YtindkpfmflcibaaGreatDoorSA
import Derived.Test.YtindkpfmflcibaaGreatDoorMRpK
import Derived.Test.YtindkpfmflcibaaGreatDoorMRpR
import Derived.Test.YtindkpfmflcibaaGreatDoorMSsP
import Derived.Test.YtindkpfmflcibaaGreatDoorMRpP
import Derived.Test.YtindkpfmflcibaaGreatDoorMSsZ
import Derived.Test.YtindkpfmflcibaaGreatDoorGE
import Derived.Lib.OwnKind
import Derived.Laws.OwnMore
import Derived.Deep.RegionWith
import Derived.Deep.CutRange
namespace Go.Proofs.YtindkpfmflcibaaGreatDoor
/- The document's table of sessions, as it lies in memory: a row of eight cells a session, by ids. -/
section
open Go.RowKit
set_option linter.unusedSimpArgs false

def ocs (s : Se) : List Value := [.int .i64 s.id, .int .i64 s.used, .int .i64 s.seq, .int .i64 s.r.e, .int .i64 s.r.n, .int .i64 s.r.K, .int .i64 s.r.m, .string s.r.s]
def ocl (L : List Se) : List Value := L.flatMap ocs
theorem ocl_nil : ocl [] = [] := rfl
theorem ocl_app (L M : List Se) : ocl (L ++ M) = ocl L ++ ocl M := List.flatMap_append
theorem ocl_len : ∀ L : List Se, (ocl L).length = L.length * 8
  | [] => rfl
  | s :: L => by
    show (ocs s ++ ocl L).length = _
    rw [List.length_append, ocl_len L]
    show 8 + L.length * 8 = (L.length + 1) * 8
    omega
theorem ocl_at : ∀ {L : List Se} {k : Nat} (hk : k < L.length) {j : Nat}, j < 8 → (ocl L)[k * 8 + j]? = (ocs L[k])[j]?
  | s :: L, 0, _, j, hj => by
    show (ocs s ++ ocl L)[0 * 8 + j]? = _
    rw [List.getElem?_append_left (by show 0 * 8 + j < 8; omega), Nat.zero_mul, Nat.zero_add]
    rfl
  | s :: L, k + 1, hk, j, hj => by
    show (ocs s ++ ocl L)[(k + 1) * 8 + j]? = _
    rw [List.getElem?_append_right (by show 8 ≤ (k + 1) * 8 + j; omega), show (k + 1) * 8 + j - (ocs s).length = k * 8 + j by show (k + 1) * 8 + j - 8 = _; omega, ocl_at (by simpa using hk) hj]
    rfl
theorem ocl_one {L : List Se} : ∀ u ∈ ocl L, u.oneCell' = true := fun u hu => by
  obtain ⟨s, -, hu⟩ := List.mem_flatMap.1 hu
  simp only [ocs, List.mem_cons, List.not_mem_nil, or_false] at hu
  rcases hu with rfl | rfl | rfl | rfl | rfl | rfl | rfl | rfl <;> rfl
theorem ocl_take (L : List Se) (k : Nat) (hk : k ≤ L.length) : (ocl L).take (k * 8) = ocl (L.take k) := by
  have h := ocl_app (L.take k) (L.drop k)
  rw [List.take_append_drop] at h
  rw [h]
  have hl : k * 8 = (ocl (L.take k)).length := by rw [ocl_len, List.length_take, Nat.min_eq_left hk]
  rw [hl, List.take_left']
  rfl
theorem ocl_drop (L : List Se) (k : Nat) (hk : k ≤ L.length) : (ocl L).drop (k * 8) = ocl (L.drop k) := by
  have h := ocl_app (L.take k) (L.drop k)
  rw [List.take_append_drop] at h
  rw [h]
  have hl : k * 8 = (ocl (L.take k)).length := by rw [ocl_len, List.length_take, Nat.min_eq_left hk]
  rw [hl, List.drop_left']
  rfl
/-- The table. -/
structure RT (w : World) (B Tw most : Nat) (v : Value) (L : List Se) : Prop where
  blk : Blk w Tw 29 #[v, .int .i64 (most : Int)]
  row : w.ownsRow B 56 8 v L.length (ocl L)
  ge : B ≤ Tw
section
variable {w w' : World} {B Tw most : Nat} {v : Value} {L : List Se}
theorem RT.other {a b : Nat} (h : RT w B Tw most v L) (hb : But2 a b w w') (h1 : Tw ≠ a) (h2 : Tw ≠ b) (h3 : ∀ k, v.ownBlock = some k → k ≠ a ∧ k ≠ b) : RT w' B Tw most v L :=
  ⟨(hb.block Tw h.blk.lt h1 h2).trans h.blk, Ss.own_stay h.row fun k hk => hb.block k (h.row.lt k hk).2 (h3 k hk).1 (h3 k hk).2, h.ge⟩
theorem RT.later (h : RT w B Tw most v L) (hb : Below w.heap.size w w') : RT w' B Tw most v L :=
  ⟨h.blk.later hb, Ss.own_later h.row hb, h.ge⟩
theorem RT.apart (h : RT w B Tw most v L) : ∀ k, v.ownBlock = some k → k ≠ Tw := fun k hk e => by
  obtain ⟨c, fz, hc⟩ := Go.Lib.ownsRow_kind h.row k hk
  rw [e] at hc
  have := h.blk
  unfold Blk at this
  rw [hc] at this
  injection this with this
  injection this with _ this
  exact absurd this (by decide)
/-- A session of it. -/
structure RAt (w : World) (Tw : Nat) (v : Value) (n g cap k : Nat) (s : Se) : Prop where
  v : v = .slice (some ⟨g, 0, none⟩) n cap
  ne : g ≠ Tw
  lt : g < w.heap.size
  c0 : w.cell? ⟨g, k * 8, none⟩ = some (.int .i64 s.id)
  c1 : w.cell? ⟨g, k * 8 + 1, none⟩ = some (.int .i64 s.used)
  c2 : w.cell? ⟨g, k * 8 + 2, none⟩ = some (.int .i64 s.seq)
  c3 : w.cell? ⟨g, k * 8 + 3, none⟩ = some (.int .i64 s.r.e)
  c4 : w.cell? ⟨g, k * 8 + 4, none⟩ = some (.int .i64 s.r.n)
  c5 : w.cell? ⟨g, k * 8 + 5, none⟩ = some (.int .i64 s.r.K)
  c6 : w.cell? ⟨g, k * 8 + 6, none⟩ = some (.int .i64 s.r.m)
  c7 : w.cell? ⟨g, k * 8 + 7, none⟩ = some (.string s.r.s)
  fz : ∀ j, w.frozen? ⟨g, j, none⟩ = false
theorem RT.form (h : RT w B Tw most v L) (h0 : 0 < L.length) : ∃ g cap, v = .slice (some ⟨g, 0, none⟩) L.length cap ∧ B ≤ g ∧ g < w.heap.size ∧ g ≠ Tw := by
  obtain ⟨g, cap, hv, hb, hlt⟩ := h.row.form h0
  exact ⟨g, cap, hv, hb, hlt, h.apart g (by rw [hv]; rfl)⟩
theorem RT.at (h : RT w B Tw most v L) {k : Nat} (hk : k < L.length) : ∃ g cap, RAt w Tw v L.length g cap k L[k] := by
  obtain ⟨g, cap, hv, hb, hlt, hne⟩ := h.form (by omega)
  have hr := h.row
  rw [hv] at hr
  have hc : ∀ j, j < 8 → w.cell? ⟨g, k * 8 + j, none⟩ = (ocs L[k])[j]? := fun j hj => by
    rw [hr.cellAt (k * 8 + j) (by omega), ocl_at hk hj]
  exact ⟨g, cap, hv, hne, hlt, hc 0 (by decide), hc 1 (by decide), hc 2 (by decide), hc 3 (by decide), hc 4 (by decide), hc 5 (by decide), hc 6 (by decide), hc 7 (by decide), fun j => hr.frozenAt j⟩
theorem RT.cells (h : RT w B Tw most v L) : Tw < w.heap.size ∧ w.cell? ⟨Tw, 0, none⟩ = some v ∧ w.cell? ⟨Tw, 1, none⟩ = some (.int .i64 (most : Int)) ∧ w.frozen? ⟨Tw, 0, none⟩ = false :=
  ⟨h.blk.lt, by rw [h.blk.cell]; rfl, by rw [h.blk.cell]; rfl, h.blk.thaw 0⟩
/-- The slice's form. -/
theorem RT.slice (h : RT w B Tw most v L) : ∃ A cap, v = .slice A L.length cap ∧ L.length ≤ cap := by
  rcases h.row.2 with ⟨rfl, h0⟩ | ⟨g, cap, cur, rfl, _, _, hc, _⟩
  · exact ⟨none, 0, by rw [h0], by omega⟩
  · exact ⟨_, cap, rfl, hc⟩
end
/-- Where an id stands: nowhere (-1), or at a place. -/
def KZ (i : Int) (L : List Se) (z : Int) : Prop := (z = -1 ∧ ∀ s ∈ L, s.id ≠ i) ∨ ∃ k : Nat, ∃ hk : k < L.length, z = (k : Int) ∧ L[k].id = i
theorem KZ.find {i : Int} {L : List Se} {z : Int} (h : KZ i L z) (hu : L.Pairwise fun a b => a.id < b.id) : (z = -1 ∧ findS i L = none) ∨ ∃ k : Nat, ∃ hk : k < L.length, z = (k : Int) ∧ L[k].id = i ∧ findS i L = some L[k] := by
  rcases h with ⟨rfl, h⟩ | ⟨k, hk, rfl, e⟩
  · exact .inl ⟨rfl, findS_none.2 h⟩
  · exact .inr ⟨k, hk, rfl, e, findS_of hu (List.getElem_mem hk) e⟩
/-- How a call at it ends: with another row, maybe. -/
def RtTo (w : World) (B Tw most : Nat) (v : Value) (L : List Se) (w' : World) : Prop :=
  ∃ v', RT w' B Tw most v' L ∧ But2 Tw (v.ownBlock.getD Tw) w w' ∧ ∀ k, v'.ownBlock = some k → v.ownBlock = some k ∨ w.heap.size ≤ k
/-- A session's cells turn in place. -/
theorem ocl_set {L : List Se} {k : Nat} (hk : k < L.length) (s : Se) : ocl (L.set k s) = (ocl L).take (k * 8) ++ ocs s ++ (ocl L).drop ((k + 1) * 8) := by
  rw [ocl_take L k (by omega), ocl_drop L (k + 1) (by omega), List.set_eq_take_append_cons_drop, if_pos hk, ocl_app]
  show _ ++ (ocs s ++ ocl _) = _
  rw [List.append_assoc]
theorem set_in {xs : List Value} {k : Nat} (j : Nat) (hj : j < 8) (hk : (k + 1) * 8 ≤ xs.length) {a b c d e f g h u : Value} (hx : (xs.drop (k * 8)).take 8 = [a, b, c, d, e, f, g, h]) :
    xs.set (k * 8 + j) u = xs.take (k * 8) ++ [a, b, c, d, e, f, g, h].set j u ++ xs.drop ((k + 1) * 8) := by
  have e1 : xs = xs.take (k * 8) ++ ([a, b, c, d, e, f, g, h] ++ xs.drop ((k + 1) * 8)) := by
    rw [← hx]
    conv => lhs; rw [← List.take_append_drop (k * 8) xs]
    congr 1
    conv => lhs; rw [← List.take_append_drop 8 (xs.drop (k * 8))]
    rw [List.drop_drop]
    congr 2
    omega
  have hl : (xs.take (k * 8)).length = k * 8 := by rw [List.length_take]; omega
  conv => lhs; rw [e1]
  rw [List.set_append_right _ _ (by omega), hl, show k * 8 + j - k * 8 = j by omega, List.set_append_left _ _ (by simpa using hj), List.append_assoc]
theorem ocl_blk {L : List Se} {k : Nat} (hk : k < L.length) : ((ocl L).drop (k * 8)).take 8 = ocs L[k] := by
  rw [ocl_drop L k (by omega), List.drop_eq_getElem_cons hk]
  rfl
theorem ocl_stored {L : List Se} {k : Nat} (hk : k < L.length) (j : Nat) (hj : j < 8) (u : Value) (s : Se) (hs : (ocs L[k]).set j u = ocs s) : (ocl L).set (k * 8 + j) u = ocl (L.set k s) := by
  have h8 : (k + 1) * 8 ≤ (ocl L).length := by rw [ocl_len]; omega
  rw [ocl_set hk, ← hs]
  exact set_in j hj h8 (ocl_blk hk)
section
variable {w : World} {B Tw most : Nat} {v : Value} {L : List Se}
/-- One cell of a session is stored to. -/
theorem RT.stored (h : RT w B Tw most v L) {k : Nat} (hk : k < L.length) {g cap : Nat} (hv : v = .slice (some ⟨g, 0, none⟩) L.length cap) (j : Nat) (hj : j < 8) (u : Value) (s : Se) (hs : (ocs L[k]).set j u = ocs s) :
    RT (w.setCell ⟨g, k * 8 + j, none⟩ u) B Tw most v (L.set k s) ∧ But2 Tw g w (w.setCell ⟨g, k * 8 + j, none⟩ u) := by
  have hr := h.row
  rw [hv] at hr
  obtain ⟨h1, h2⟩ := hr.stored (k * 8 + j) u
  rw [ocl_stored hk j hj u s hs] at h1
  have hb : But2 Tw g w (w.setCell ⟨g, k * 8 + j, none⟩ u) := ⟨h2.os, h2.tape, h2.output, h2.size, fun i hi _ hg => h2.block i hi (fun e => hg (by injection e))⟩
  have hne := h.apart g (by rw [hv]; rfl)
  refine ⟨⟨?_, by rw [List.length_set, hv]; exact h1, h.ge⟩, hb⟩
  refine Eq.trans ?_ h.blk
  exact h2.block Tw h.blk.lt (fun e => hne (by injection e with e; exact e.symm))
end
end
/- The document's Cut, Find, Use, Keep. -/
section
open Go.RowKit
set_option linter.unusedSimpArgs false

theorem rtcut_any (most : Int) (w : World) : Calls Tryz.prog 5 #[.int .i64 most] w fun e w' => e = .returned (.int .i64 (cutM most : Int)) ∧ w = w' := by
  have e := cutM_nat most
  obtain ⟨n, hn⟩ : ∃ n : Int, (cutM most : Int) = n := ⟨_, rfl⟩
  rw [hn] at e ⊢
  clear hn
  go_enter Tryz.func5, Tryz.ntmps5
  go_wp2_with fail
  rw [← e]
  go_ret
  exact ⟨rfl, rfl⟩
set_option maxHeartbeats 2000000 in
set_option maxRecDepth 100000 in
theorem rtfind_any (B Tw most : Nat) (v : Value) (L : List Se) (i : Int) (w : World) (h : RT w B Tw most v L) (hl : L.length ≤ 64) :
    Calls Tryz.prog 19 #[.pointer (some ⟨Tw, 0, none⟩), .int .i64 i] w fun e w' => (∃ z, e = .returned (.int .i64 z) ∧ KZ i L z) ∧ w = w' := by
  obtain ⟨hTl, c0, -, -⟩ := h.cells
  have HAT := Lib.hid (fun k (hk : k < L.length) => h.at hk)
  obtain ⟨A, cap, hv, hcap⟩ := h.slice
  subst hv
  obtain ⟨n, hn⟩ : ∃ n, L.length = n := ⟨_, rfl⟩
  have HN := Lib.hid hn
  rw [hn] at c0 hcap hl
  clear h hn
  go_enter Tryz.func19, Tryz.ntmps19
  go_wp2_with fail
  go_loopg [5] (n) (fun m s5 wr => wr = w ∧ ∃ k : Nat, k + m = n ∧ s5 = .int .i64 (k : Int) ∧ Hid (∀ j (hj : j < L.length), j < k → L[j].id ≠ i))
  case atStart => exact ⟨rfl, 0, by omega, rfl, Lib.hid fun j hj h => by omega⟩
  case round =>
    obtain ⟨rfl, k, hkm, rfl, HJ⟩ := hrel
    have HKM := Lib.hid hkm
    by_cases hk : k < n
    · have hkz : (k : Int) < (n : Int) := by omega
      have hkl : k < L.length := by rw [HN.out]; exact hk
      obtain ⟨g, cap', hA⟩ := HAT.out k hkl
      obtain ⟨hv, -, -, x0, -, -, -, -, -, -, -, -⟩ := hA
      rw [HN.out] at hv
      injection hv with hA hn hc
      subst hA
      obtain ⟨d, hd⟩ : ∃ d, L[k].id = d := ⟨_, rfl⟩
      rw [hd] at x0
      have HD := Lib.hid hd
      clear hd hkm hn hc
      by_cases he : d = i
      · subst he
        go_wp2_with fail
        go_ret
        exact ⟨⟨_, rfl, .inr ⟨k, hkl, rfl, HD.out⟩⟩, rfl⟩
      · go_wp2_with fail
        go_roundg (n - (k + 1))
        case measure => have := HKM.out; omega
        case rel =>
          refine ⟨rfl, k + 1, by have := HKM.out; omega, by go_num, Lib.hid fun j hj h => ?_⟩
          rcases Nat.lt_or_ge j k with h1 | h1
          · exact HJ.out j hj h1
          · obtain rfl : j = k := by omega
            rw [HD.out]; exact he
    · have hkz : ¬ (k : Int) < (n : Int) := by omega
      have HE : Hid (∀ s ∈ L, s.id ≠ i) := Lib.hid fun s hs => by
        obtain ⟨j, hj, rfl⟩ := List.getElem_of_mem hs
        exact HJ.out j hj (by have := HN.out; omega)
      go_wp2_with fail
      go_ret
      exact ⟨⟨_, rfl, .inl ⟨rfl, HE.out⟩⟩, rfl⟩
set_option maxHeartbeats 2000000 in
set_option maxRecDepth 100000 in
theorem rtuse_any (B Tw most : Nat) (v : Value) (L : List Se) (i a : Int) (w : World) (h : RT w B Tw most v L) (ht : Tb most L) :
    Calls Tryz.prog 15 #[.pointer (some ⟨Tw, 0, none⟩), .int .i64 i, .int .i64 a] w fun e w' => e = .returned (.bool (useS i a L).1) ∧ RtTo w B Tw most v (useS i a L).2 w' := by
  have cF := rtfind_any B Tw most v L i w h (Nat.le_trans ht.len ht.hi)
  obtain ⟨hTl, c0, -, -⟩ := h.cells
  obtain ⟨A, cap, hv, hcap⟩ := h.slice
  have H := Lib.hid h
  have HU := Lib.hid ht
  have HL := Lib.hid (Nat.le_trans ht.len ht.hi)
  have HV := Lib.hid hv
  rw [hv] at c0
  obtain ⟨n, hn⟩ : ∃ n, L.length = n := ⟨_, rfl⟩
  have HN := Lib.hid hn
  rw [hn] at c0 hcap
  clear h ht hn hv
  go_enter Tryz.func15, Tryz.ntmps15
  go_wp2_with fail
  refine cF.mono ?_
  rintro e w1 ⟨⟨z, rfl, hz⟩, rfl⟩
  rcases hz.find HU.out.up with ⟨rfl, hf⟩ | ⟨k, hk, rfl, he, hf⟩
  · have HF := Lib.hid hf
    clear cF hz hf
    go_wp2_with fail
    go_ret
    refine ⟨by unfold useS; rw [HF.out]; rfl, v, ?_, But2.refl _ _ _, fun k hk => .inl hk⟩
    unfold useS
    rw [updS_none HF.out]
    exact H.out
  · obtain ⟨g, cap', hA⟩ := H.out.at hk
    obtain ⟨hv, hne, hlt, x0, x1, x2, x3, x4, x5, x6, x7, fz⟩ := hA
    have hv2 := hv
    rw [HV.out, HN.out] at hv
    injection hv with hA hnn hc
    subst hA hc
    have f1 := fz (k * 8 + 1)
    have hkn : (k : Int) < (n : Int) := by have := HN.out; omega
    have hk0 : ¬ (k : Int) < 0 := by omega
    have hkn2 : k < n := by have := HN.out; omega
    have hkb : k ≤ 64 := by have := HL.out; have := HN.out; omega
    obtain ⟨z, hz'⟩ : ∃ z, z = max L[k].used (min a 1099511627776) := ⟨_, rfl⟩
    have hz2 := hz'
    obtain ⟨u, hu⟩ : ∃ u, L[k].used = u := ⟨_, rfl⟩
    rw [hu] at x1 hz'
    have hst := H.out.stored hk hv2 1 (by decide) (.int .i64 z) (useF a L[k]) (by rw [hz2]; rfl)
    have HST := Lib.hid hst
    have HE := Lib.hid he
    have HF := Lib.hid hf
    clear cF hz hf he hst hz2 hu hnn x0 x2 x3 x4 x5 x6 x7 fz hv2
    go_wp2_with fail
    try rw [← hz']
    go_region
    try rw [← hz']
    all_goals
      clear hz'
      go_wp2_with fail
      go_ret
      refine ⟨by unfold useS; rw [HF.out]; rfl, v, ?_, ?_, fun k hk => .inl hk⟩
      · have h1 := HST.out.1
        unfold useS
        rw [updS_at HU.out.up hk HE.out]
        exact ⟨h1.blk, h1.row, h1.ge⟩
      · have h2 := HST.out.2
        rw [HV.out]
        exact ⟨h2.os, h2.tape, h2.output, h2.size, h2.block⟩
end
/- The document's Keep. -/
section
open Go.RowKit
set_option linter.unusedSimpArgs false

section
variable {w : World} {B Tw most : Nat} {v : Value} {L : List Se}
theorem RT.stored2 {k : Nat} {s0 : Se} (h : RT w B Tw most v (L.set k s0)) (hk : k < L.length) {g cap : Nat} (hv : v = .slice (some ⟨g, 0, none⟩) L.length cap) (j : Nat) (hj : j < 8) (u : Value) (s : Se) (hs : (ocs s0).set j u = ocs s) :
    RT (w.setCell ⟨g, k * 8 + j, none⟩ u) B Tw most v (L.set k s) ∧ But2 Tw g w (w.setCell ⟨g, k * 8 + j, none⟩ u) := by
  have h1 := h.stored (k := k) (by rw [List.length_set]; exact hk) (g := g) (cap := cap) (by rw [List.length_set]; exact hv) j hj u s (by rw [List.getElem_set_self]; exact hs)
  rwa [List.set_set] at h1
/-- A session's number and its reply are stored. -/
theorem RT.kept {k : Nat} (h : RT w B Tw most v L) (hk : k < L.length) {g cap : Nat} (hv : v = .slice (some ⟨g, 0, none⟩) L.length cap) (q : Int) (p : Rp) :
    ∀ w', w' = ((((((w.setCell ⟨g, k * 8 + 2, none⟩ (.int .i64 q)).setCell ⟨g, k * 8 + 3, none⟩ (.int .i64 p.e)).setCell ⟨g, k * 8 + 4, none⟩ (.int .i64 p.n)).setCell ⟨g, k * 8 + 5, none⟩ (.int .i64 p.K)).setCell ⟨g, k * 8 + 6, none⟩ (.int .i64 p.m)).setCell ⟨g, k * 8 + 7, none⟩ (.string p.s)) →
    RT w' B Tw most v (L.set k (keepF q p L[k])) ∧ But2 Tw g w w' := by
  rintro _ rfl
  have h0 : RT w B Tw most v (L.set k L[k]) := by rw [List.set_getElem_self]; exact h
  obtain ⟨h1, b1⟩ := h0.stored2 hk hv 2 (by decide) (.int .i64 q) ⟨L[k].id, L[k].used, q, L[k].r⟩ rfl
  obtain ⟨h2, b2⟩ := h1.stored2 hk hv 3 (by decide) (.int .i64 p.e) ⟨L[k].id, L[k].used, q, ⟨p.e, L[k].r.n, L[k].r.K, L[k].r.m, L[k].r.s⟩⟩ rfl
  obtain ⟨h3, b3⟩ := h2.stored2 hk hv 4 (by decide) (.int .i64 p.n) ⟨L[k].id, L[k].used, q, ⟨p.e, p.n, L[k].r.K, L[k].r.m, L[k].r.s⟩⟩ rfl
  obtain ⟨h4, b4⟩ := h3.stored2 hk hv 5 (by decide) (.int .i64 p.K) ⟨L[k].id, L[k].used, q, ⟨p.e, p.n, p.K, L[k].r.m, L[k].r.s⟩⟩ rfl
  obtain ⟨h5, b5⟩ := h4.stored2 hk hv 6 (by decide) (.int .i64 p.m) ⟨L[k].id, L[k].used, q, ⟨p.e, p.n, p.K, p.m, L[k].r.s⟩⟩ rfl
  obtain ⟨h6, b6⟩ := h5.stored2 hk hv 7 (by decide) (.string p.s) ⟨L[k].id, L[k].used, q, p⟩ rfl
  exact ⟨h6, ((((b1.trans b2).trans b3).trans b4).trans b5).trans b6⟩
end
set_option maxHeartbeats 2000000 in
set_option maxRecDepth 100000 in
theorem rtkeep_any (B Tw most : Nat) (v : Value) (L : List Se) (i q : Int) (p : Rp) (w : World) (h : RT w B Tw most v L) (ht : Tb most L) (hp : p.In) (q0 : -9223372036854775808 ≤ q) (q1 : q ≤ 9223372036854775807) :
    Calls Tryz.prog 17 #[.pointer (some ⟨Tw, 0, none⟩), .int .i64 i, .int .i64 q, .agg #[.int .i64 p.e, .int .i64 p.n, .int .i64 p.K, .int .i64 p.m, .string p.s]] w fun e w' => e = .returned (.bool (keepS i q p L).1) ∧ RtTo w B Tw most v (keepS i q p L).2 w' := by
  have b1 := Ss.below_alloc w (.cells (cs5 p.e p.n p.K p.m p.s) 34)
  have P1 := Blk.new w (cs5 p.e p.n p.K p.m p.s) 34
  have hsz : w.heap.size < (w.alloc (.cells (cs5 p.e p.n p.K p.m p.s) 34)).heap.size := by simp
  obtain ⟨w1, hw1⟩ : ∃ x, w.alloc (.cells (cs5 p.e p.n p.K p.m p.s) 34) = x := ⟨_, rfl⟩
  rw [hw1] at b1 P1 hsz
  have h1 := h.later b1
  have cF := rtfind_any B Tw most v L i w1 h1 (Nat.le_trans ht.len ht.hi)
  obtain ⟨hTl, c0, -, -⟩ := h1.cells
  obtain ⟨A, cap, hv, hcap⟩ := h.slice
  have H := Lib.hid h1
  have HU := Lib.hid ht
  have HL := Lib.hid (Nat.le_trans ht.len ht.hi)
  have HV := Lib.hid hv
  have HB1 := Lib.hid b1
  have cR := fun W => rreply_any p hp W
  have HP1 := Lib.hid P1
  have hTw : Tw < w.heap.size := h.blk.lt
  have hvb := fun k hk => (h.row.lt k hk).2
  have HVB := Lib.hid hvb
  rw [hv] at c0
  obtain ⟨n, hn⟩ : ∃ n, L.length = n := ⟨_, rfl⟩
  have HN := Lib.hid hn
  rw [hn] at c0 hcap
  obtain ⟨rb, hrb⟩ : ∃ b, repB p = b := ⟨_, rfl⟩
  simp only [hrb] at cR
  have HRB := Lib.hid hrb
  obtain ⟨pe, pn, pK, pm, ps⟩ := p
  dsimp only at hw1 P1 HP1 cR HB1 ⊢
  change ∀ W, Calls Tryz.prog _ #[.agg #[.int .i64 pe, .int .i64 pn, .int .i64 pK, .int .i64 pm, .string ps]] _ _ at cR
  obtain ⟨-, x0, x1, x2, x3, x4⟩ := P1.c5
  have hno : mayK i q ⟨pe, pn, pK, pm, ps⟩ L = false → ∀ W, Below w1.heap.size w1 W → (Ending.returned (.bool false) = .returned (.bool (keepS i q ⟨pe, pn, pK, pm, ps⟩ L).1) ∧ RtTo w B Tw most v (keepS i q ⟨pe, pn, pK, pm, ps⟩ L).2 W) := fun hm W hW => by
    rw [keepS_no hm]
    exact ⟨rfl, v, H.out.later hW, But2.of (HB1.out.trans (hW.mono HB1.out.size)), fun k hk => .inl hk⟩
  have HNO := Lib.hid hno
  clear h h1 ht hn hv b1 hp hrb hno hvb P1
  go_enter Tryz.func17, Tryz.ntmps17
  go_wp2_with fail
  refine cF.mono ?_
  rintro e w2 ⟨⟨z, rfl, hz⟩, rfl⟩
  rcases hz.find HU.out.up with ⟨rfl, hf⟩ | ⟨k, hk, rfl, he, hf⟩
  · have HM : Hid (mayK i q ⟨pe, pn, pK, pm, ps⟩ L = false) := Lib.hid (by unfold mayK; rw [hf])
    clear cF hz hf
    go_wp2_with fail
    go_ret
    exact HNO.out HM.out w1 (Below.refl _ _)
  · obtain ⟨g, cap', hA⟩ := H.out.at hk
    obtain ⟨hv, hne, hlt, -, -, y2, -, -, -, -, -, fz⟩ := hA
    have hv2 := hv
    rw [HV.out, HN.out] at hv
    injection hv with hA hnn hc
    subst hA hc
    have f2 := fz (k * 8 + 2)
    have f3 := fz (k * 8 + 3)
    have f4 := fz (k * 8 + 4)
    have f5 := fz (k * 8 + 5)
    have f6 := fz (k * 8 + 6)
    have f7 := fz (k * 8 + 7)
    have hkn : (k : Int) < (n : Int) := by have := HN.out; omega
    have hk0 : ¬ (k : Int) < 0 := by omega
    have hkn2 : k < n := by have := HN.out; omega
    have hkb : k ≤ 64 := by have := HL.out; have := HN.out; omega
    have HMY : Hid (mayK i q ⟨pe, pn, pK, pm, ps⟩ L = (wi (L[k].seq + 1) q && rb)) := Lib.hid (by unfold mayK; rw [hf, ← HRB.out])
    have HLK := Lib.hid (And.intro he hf)
    obtain ⟨sq, hsq⟩ : ∃ sq, L[k].seq = sq := ⟨_, rfl⟩
    rw [hsq] at y2 HMY
    have HV2 := Lib.hid hv2
    have hgw : g < w.heap.size := by have := HVB.out g (by rw [HV2.out]; rfl); exact this
    have hgp : g ≠ w.heap.size := by omega
    clear cF hz he hf hsq hnn fz hv2
    by_cases hq : q ≤ sq
    · have hm := HMY.out
      rw [show wi (sq + 1) q = false by rw [Bool.eq_false_iff]; intro h; have := wi_iff.1 h; omega] at hm
      have HM := Lib.hid hm
      clear hm
      go_wp2_with fail
      go_ret
      exact HNO.out HM.out w1 (Below.refl _ _)
    · by_cases hq2 : 1099511627776 < q
      · have hm := HMY.out
        rw [show wi (sq + 1) q = false by rw [Bool.eq_false_iff]; intro h; have := wi_iff.1 h; omega] at hm
        have HM := Lib.hid hm
        clear hm
        go_wp2_with fail
        go_ret
        exact HNO.out HM.out w1 (Below.refl _ _)
      · have hm := HMY.out
        rw [show wi (sq + 1) q = true from wi_iff.2 ⟨by omega, by omega⟩, Bool.true_and] at hm
        have HM := Lib.hid hm
        clear hm
        cases rb with
        | false =>
          go_wp2_with fail
          refine (cR _).mono ?_
          rintro e w2 ⟨rfl, b2⟩
          have HB2 := Lib.hid b2
          clear cR b2
          go_wp2_with fail
          go_ret
          exact HNO.out HM.out w2 HB2.out
        | true =>
          go_wp2_with fail
          refine (cR _).mono ?_
          rintro e w2 ⟨rfl, b2⟩
          have HH2 := Lib.hid (H.out.later b2)
          have hP2 := HP1.out.later b2
          obtain ⟨g', cap', hA⟩ := HH2.out.at hk
          obtain ⟨hv, -, hlt2, -, -, y2', y3', d4, d5, d6, d7, fz⟩ := hA
          rw [HV2.out] at hv
          injection hv with hA _ hc
          injection hA with hA
          injection hA with hA
          subst hA hc
          have f2' := fz (k * 8 + 2)
          have f3' := fz (k * 8 + 3)
          have f4' := fz (k * 8 + 3 + 1)
          have f5' := fz (k * 8 + 3 + 2)
          have f6' := fz (k * 8 + 3 + 3)
          have f7' := fz (k * 8 + 3 + 4)
          have y4' : w2.cell? ⟨g, k * 8 + 3 + 1, none⟩ = _ := d4
          have y5' : w2.cell? ⟨g, k * 8 + 3 + 2, none⟩ = _ := d5
          have y6' : w2.cell? ⟨g, k * 8 + 3 + 3, none⟩ = _ := d6
          have y7' : w2.cell? ⟨g, k * 8 + 3 + 4, none⟩ = _ := d7
          clear d4 d5 d6 d7
          obtain ⟨-, k0, -, -⟩ := HH2.out.cells
          rw [HV.out, HN.out] at k0
          obtain ⟨-, z0, z1, z2, z3, z4⟩ := hP2.c5
          have hs2 := b2.size
          have HB2 := Lib.hid b2
          have hpl : w.heap.size < w2.heap.size := by omega
          have hTl2 : Tw < w2.heap.size := by omega
          obtain ⟨w3, hw3⟩ : ∃ x, x = ((((((w2.setCell ⟨g, k * 8 + 2, none⟩ (.int .i64 q)).setCell ⟨g, k * 8 + 3, none⟩ (.int .i64 pe)).setCell ⟨g, k * 8 + 3 + 1, none⟩ (.int .i64 pn)).setCell ⟨g, k * 8 + 3 + 2, none⟩ (.int .i64 pK)).setCell ⟨g, k * 8 + 3 + 3, none⟩ (.int .i64 pm)).setCell ⟨g, k * 8 + 3 + 4, none⟩ (.string ps)) := ⟨_, rfl⟩
          have hkept := HH2.out.kept hk HV2.out q ⟨pe, pn, pK, pm, ps⟩ w3 hw3
          have HKP := Lib.hid hkept
          clear cR b2 hP2 hkept fz x0 x1 x2 x3 x4 f2 f3 f4 f5 f6 f7 y2 c0 hlt hTl hsz hs2
          go_wp2_with fail
          go_region
          all_goals
            try rw [← hw3]
            go_wp2_with fail
            go_ret
            rw [keepS_yes HM.out]
            refine ⟨rfl, v, ?_, ?_, fun k hk => .inl hk⟩
            · have h1 := HKP.out.1
              dsimp only
              rw [updS_at HU.out.up hk HLK.out.1]
              exact ⟨h1.blk, h1.row, h1.ge⟩
            · have h2 := HKP.out.2
              rw [HV.out]
              have h3 : But2 Tw g w w2 := But2.of (HB1.out.trans (HB2.out.mono HB1.out.size))
              have h4 := h3.trans h2
              exact ⟨h4.os, h4.tape, h4.output, h4.size, h4.block⟩
end
/- The document's Put of a table. Printed by gen/rtput.py. -/
section
open Go.RowKit
set_option linter.unusedSimpArgs false

def cs8o (s : Se) : Array Value := #[.int .i64 s.id, .int .i64 s.used, .int .i64 s.seq, .int .i64 s.r.e, .int .i64 s.r.n, .int .i64 s.r.K, .int .i64 s.r.m, .string s.r.s]
structure C8 (w : World) (b : Nat) (i u q e n K m : Int) (s : ByteArray) : Prop where
  lt : b < w.heap.size
  c0 : w.cell? ⟨b, 0, none⟩ = some (.int .i64 i)
  c1 : w.cell? ⟨b, 1, none⟩ = some (.int .i64 u)
  c2 : w.cell? ⟨b, 2, none⟩ = some (.int .i64 q)
  c3 : w.cell? ⟨b, 3, none⟩ = some (.int .i64 e)
  c4 : w.cell? ⟨b, 4, none⟩ = some (.int .i64 n)
  c5 : w.cell? ⟨b, 5, none⟩ = some (.int .i64 K)
  c6 : w.cell? ⟨b, 6, none⟩ = some (.int .i64 m)
  c7 : w.cell? ⟨b, 7, none⟩ = some (.string s)
theorem Blk.o8 {w : World} {b : Nat} {t : TypeId} {i u q e n K m : Int} {s : ByteArray} (h : Blk w b t #[.int .i64 i, .int .i64 u, .int .i64 q, .int .i64 e, .int .i64 n, .int .i64 K, .int .i64 m, .string s]) : C8 w b i u q e n K m s := by
  refine ⟨h.lt, ?_, ?_, ?_, ?_, ?_, ?_, ?_, ?_⟩ <;> rw [h.cell] <;> rfl
theorem text_run {w : World} {A : Option Addr} {L : List UInt8} {t : ByteArray} (cap : Nat) (hB : Bs w A L) (h : (⟨L.toArray⟩ : ByteArray) = t) : (convert 35 9 (.slice A L.length cap)).run Tryz.prog w = .ok (.string t) w := by
  rw [← h]
  exact run_str_of (P := Tryz.prog) 35 9 5 cap Tryz.underlying35 Tryz.underlying5 Tryz.underlying9 hB
/-- A row of bytes of the call's own. -/
def OBy (w wx : World) (L : List UInt8) (v : Value) : Prop := wx.ownsRow w.heap.size 5 1 v L.length (Lib.byteCells L)
theorem OBy.later {w wx wy : World} {L : List UInt8} {v : Value} (h : OBy w wx L v) (hb : Below wx.heap.size wx wy) : OBy w wy L v := Ss.own_later h hb
theorem OBy.drew {w wx : World} {L : List UInt8} {v : Value} (h : OBy w wx L v) : OBy w wx.drew L v := h.later (Below.refl _ _).drew
theorem oby_put {w wx : World} {L M : List UInt8} {v : Value} (h : OBy w wx L v) (_p : 1 ≤ L.length) (pm : 1 ≤ M.length) {A : Option Addr} (cap : Nat) (hB : Bs wx A M) (hl : L.length + M.length ≤ 140737488355328) (hz : w.heap.size ≤ wx.heap.size) :
    ∃ v3 w3, (Builtin.append_ #[35, 35] 35 #[v, .slice A M.length cap]).run Tryz.prog wx = .ok v3 w3 ∧ OBy w w3 (L ++ M) v3 ∧ Below w.heap.size wx w3 ∧ ∀ k, k < wx.heap.size → (∀ g, v.ownBlock = some g → k ≠ g) → w3.heap[k]? = wx.heap[k]? := by
  obtain ⟨i0, hi, hz0, hz1, hz2⟩ := info_parts (show (Tryz.prog.info? 5).map (fun i => (i.zero, i.size, i.bytes)) = some (some (.int .u8 0), 1, 1) by kernel_rfl)
  obtain ⟨b, off, rfl, -⟩ := hB (by omega)
  obtain ⟨g, c, w3, hr, h1, h2, h3, h4⟩ := run_append_lies (P := Tryz.prog) wx 35 35 w.heap.size 5 i0 (.int .u8 0) 1 1 Tryz.underlying35 hi hz0 hz1 hz2 rfl (by decide) v L.length (Lib.byteCells L) h ⟨b, off, none⟩ M.length cap (Lib.byteCells M) (by rw [Lib.byteCells_length]; omega) (bs_cells hB) (bytes_one M) (by omega) (by unfold maxLen; omega) (by omega) hz wx.heap.size rfl
  refine ⟨_, w3, hr, ?_, (Below.refl _ wx).grown h2 hz (fun k hk => (h.lt k hk).1), fun k hk hg => h2.block k hk (fun e => hg k e.symm rfl)⟩
  have e : (L ++ M).length = L.length + M.length := List.length_append ..
  have e2 : Lib.byteCells (L ++ M) = Lib.byteCells L ++ Lib.byteCells M := by simp [Lib.byteCells]
  unfold OBy
  rw [e, e2]
  exact h1
set_option maxHeartbeats 4000000 in
set_option maxRecDepth 100000 in
theorem rtput_any (B Tw most : Nat) (v : Value) (L : List Se) (w : World) (h : RT w B Tw most v L) (ht : Tb most L) :
    Calls Tryz.prog 29 #[.pointer (some ⟨Tw, 0, none⟩)] w (OwnBytes w (tabB L)) := by
  have hl : L.length ≤ 64 := Nat.le_trans ht.len ht.hi
  obtain ⟨hTl, c0, -, -⟩ := h.cells
  obtain ⟨A, cap, hv, hcap⟩ := h.slice
  have cI := refint_any (L.length : Int) w (by omega) (by omega)
  have hpl := putI_of_len hl
  have H := Lib.hid h
  have HU := Lib.hid ht
  subst hv
  obtain ⟨P0, hP0⟩ : ∃ P0, putI (L.length : Int) = P0 := ⟨_, rfl⟩
  rw [hP0] at hpl cI
  have HG : Hid (tabB L = P0 ++ L.flatMap seB) := Lib.hid (by unfold tabB; rw [hP0])
  obtain ⟨n, hn⟩ : ∃ n, L.length = n := ⟨_, rfl⟩
  have HN := Lib.hid hn
  rw [hn] at c0 hcap hl cI
  have HPL := Lib.hid hpl
  have HC := Lib.hid (fun W (hW : Below w.heap.size w W) => (H.out.later hW).cells)
  clear h ht hn hP0
  go_enter Tryz.func29, Tryz.ntmps29
  go_wp2_with fail
  refine cI.mono ?_
  rintro e w1 ⟨A1, cap1, rfl, hB1, hc1, ho1, b1⟩
  have HO1 : Hid (OBy w w1 (P0 ++ (L.take 0).flatMap seB) (.slice A1 P0.length cap1)) := Lib.hid (by simp only [List.take_zero, List.flatMap_nil, List.append_nil]; exact ho1)
  have HB1 := Lib.hid b1
  clear cI hB1 hc1 ho1 b1 c0 hTl
  go_wp2_with fail
  go_loopg [3, 4] (n) (fun m s3 s4 wr => ∃ k : Nat, k + m = n ∧ s4 = .int .i64 (k : Int) ∧ Hid (OBy w wr (P0 ++ (L.take k).flatMap seB) s3) ∧ Hid (Below w.heap.size w wr))
  case atStart => exact ⟨0, by omega, rfl, HO1, HB1⟩
  case round =>
    obtain ⟨k, hkm, rfl, HO, HW⟩ := hrel
    have HKM := Lib.hid hkm
    clear HO1 HB1
    obtain ⟨hTl, c0, -, -⟩ := HC.out wr HW.out
    rw [HN.out] at c0
    by_cases hk : k < n
    · have hkz : (k : Int) < (n : Int) := by omega
      have hkl : k < L.length := by rw [HN.out]; exact hk
      obtain ⟨g, cap', hA⟩ := (H.out.later HW.out).at hkl
      obtain ⟨hv, -, hlt, x0, x1, x2, x3, x4, x5, x6, x7, -⟩ := hA
      rw [HN.out] at hv
      injection hv with hA hnn hc
      subst hA hc
      have hkb : k ≤ 64 := by omega
      have hmem := List.getElem_mem hkl
      have hrow := (HU.out.row hmem).1
      have i0 := HU.out.id _ hmem
      have u0 := HU.out.used _ hmem
      have q0 := HU.out.seq _ hmem
      have rin := HU.out.rin _ hmem
      have rsz := rep_size (HU.out.rep _ hmem)
      have hsn := Lib.hid (seflat_snoc (List.getElem?_eq_getElem hkl))
      have hsm := row_small HU.out (P0 := P0) HPL.out.2 (j := k) hkb
      obtain ⟨s, hs⟩ : ∃ s, L[k] = s := ⟨_, rfl⟩
      rw [hs] at x0 x1 x2 x3 x4 x5 x6 x7 hrow i0 u0 q0 rin rsz hsn
      have hlr : s.r.s.data.toList.length ≤ 1000000 := by show s.r.s.size ≤ _; omega
      have cA := fun W => refint_any s.id W (by omega) (by omega)
      have cB := fun W => refint_any s.used W (by omega) (by omega)
      have cC := fun W => refint_any s.seq W (by omega) (by omega)
      have cR := fun W => rputr_any s.r rin W hlr
      have hpr := putP_len rin hlr
      have cT := fun W => reftext_any (txt (putP s.r)) W (by rw [txt_list]; omega)
      rw [txt_list] at cT
      have p1 := putI_pos s.id
      have p2 := putI_pos s.used
      have p3 := putI_pos s.seq
      have p4 : 1 ≤ (putT (putP s.r)).length := by unfold putT; rw [List.length_append]; have := putI_pos ((putP s.r).length : Int); omega
      have hseb : seB s = putI s.id ++ putI s.used ++ putI s.seq ++ putT (putP s.r) := rfl
      have HP : Hid ((⟨(putP s.r).toArray⟩ : ByteArray) = txt (putP s.r)) := Lib.hid rfl
      obtain ⟨i, u, q, e, nn, K, m, t⟩ := s
      dsimp only at *
      obtain ⟨X1, hX1⟩ : ∃ X, putI i = X := ⟨_, rfl⟩
      obtain ⟨X2, hX2⟩ : ∃ X, putI u = X := ⟨_, rfl⟩
      obtain ⟨X3, hX3⟩ : ∃ X, putI q = X := ⟨_, rfl⟩
      obtain ⟨X5, hX5⟩ : ∃ X, putP ⟨e, nn, K, m, t⟩ = X := ⟨_, rfl⟩
      obtain ⟨X4, hX4⟩ : ∃ X, putT X5 = X := ⟨_, rfl⟩
      rw [hX5] at cR cT hpr p4 hseb HP
      rw [hX4] at cT p4 hseb
      rw [hX1] at cA p1 hseb
      rw [hX2] at cB p2 hseb
      rw [hX3] at cC p3 hseb
      obtain ⟨M, hM⟩ : ∃ M, P0 ++ (L.take k).flatMap seB = M := ⟨_, rfl⟩
      rw [hM] at HO hsm
      have hM1 : 1 ≤ M.length := by rw [← hM, List.length_append]; have := HPL.out.1; omega
      have HMN : Hid (P0 ++ (L.take (k + 1)).flatMap seB = M ++ X1 ++ X2 ++ X3 ++ X4) := Lib.hid (by rw [hsn.out, ← List.append_assoc, hM, hseb]; simp only [List.append_assoc])
      have hsum : X1.length + X2.length + X3.length + X4.length ≤ 1000200 := by have := hrow.2; rw [hseb] at this; simp only [List.length_append] at this; omega
      obtain ⟨txs, htx⟩ : ∃ x, txt X5 = x := ⟨_, rfl⟩
      rw [htx] at cT HP
      have b2 := Ss.below_alloc wr (.cells #[.int .i64 i, .int .i64 u, .int .i64 q, .int .i64 e, .int .i64 nn, .int .i64 K, .int .i64 m, .string t] 56)
      have S2 := Blk.new wr #[.int .i64 i, .int .i64 u, .int .i64 q, .int .i64 e, .int .i64 nn, .int .i64 K, .int .i64 m, .string t] 56
      have hO2 := HO.out.later b2
      have hW2 := HW.out.trans (b2.mono HW.out.size)
      have HXB := Lib.hid S2
      have HO2 := Lib.hid hO2
      have HW2 := Lib.hid hW2
      have HB2 := Lib.hid b2
      clear hrow i0 u0 q0 rin rsz hsn hseb hX1 hX2 hX3 hX4 hX5 hM htx hnn hs hlr hkm hmem hO2 hW2 S2 b2
      go_upto_region 6 with fail
      clear x0 x1 x2 x3 x4 x5 x6 x7 c0
      obtain ⟨xb, hxb⟩ : ∃ b, wr.heap.size = b := ⟨_, rfl⟩
      rw [hxb] at HXB HB2
      try rw [hxb]
      generalize hw2 : wr.alloc (.cells #[.int .i64 i, .int .i64 u, .int .i64 q, .int .i64 e, .int .i64 nn, .int .i64 K, .int .i64 m, .string t] 56) = w2 at *
      have KX := Lib.hid (fun wz (hz : Below w2.heap.size w2 wz) => (HXB.out.later hz).o8)
      go_cut [3] from 12 to 47 (fun s3 wx => Hid (OBy w wx (M ++ X1 ++ X2 ++ X3) s3) ∧ Hid (Below w.heap.size w wx) ∧ Hid (C8 wx xb i u q e nn K m t))
      case first =>
        clear hw2
        have hS0 : Below w.heap.size w w2 ∧ C8 w2 xb i u q e nn K m t := ⟨HW2.out, HXB.out.o8⟩
        have hxt : ∀ (wz : World) (M : List UInt8) (v : Value), OBy w wz M v → wz.heap[xb]? = some (.cells #[.int .i64 i, .int .i64 u, .int .i64 q, .int .i64 e, .int .i64 nn, .int .i64 K, .int .i64 m, .string t] 56) → ∀ g, v.ownBlock = some g → xb ≠ g := fun wz M v ho hx g hg e => by
          obtain ⟨c, fz, hc⟩ := Go.Lib.ownsRow_kind ho g hg
          rw [← e, hx] at hc
          injection hc with hc
          injection hc with _ hc
          exact absurd hc (by decide)
        have HXT := Lib.hid hxt
        have HX0 := Lib.hid (show w2.heap[xb]? = some (.cells #[.int .i64 i, .int .i64 u, .int .i64 q, .int .i64 e, .int .i64 nn, .int .i64 K, .int .i64 m, .string t] 56) from HXB.out)
        have HSB := Lib.hid (fun (wz : World) (hz : wz.heap[xb]? = some (.cells #[.int .i64 i, .int .i64 u, .int .i64 q, .int .i64 e, .int .i64 nn, .int .i64 K, .int .i64 m, .string t] 56)) => Blk.o8 (w := wz) (b := xb) (t := 56) (i := i) (u := u) (q := q) (e := e) (n := nn) (K := K) (m := m) (s := t) hz)
        clear hxt hS0
        refine wp_region_held_drew (S := fun w' => Below w.heap.size w w' ∧ w'.heap[xb]? = some (.cells #[.int .i64 i, .int .i64 u, .int .i64 q, .int .i64 e, .int .i64 nn, .int .i64 K, .int .i64 m, .string t] 56)) (by kernel_rfl) (⟨HW2.out.drew, HX0.out⟩) (fun hHeld => ?_)
        have hOW := HO2.out.drew
        refine held_take (i := 0) (v := ?_) rfl (by kernel_rfl) (by kernel_rfl) (by kernel_rfl) (fun _ _ _ h => h) (by rfl) hHeld ?_ ?_
        rotate_left
        · intro wz hSz; go_simp; try with_reducible rfl
        simp only [Act.put, List.setIfInBounds_toArray, List.set_cons_zero, List.set_cons_succ]
        refine held_take (i := 1) (v := ?_) rfl (by kernel_rfl) (by kernel_rfl) (by kernel_rfl) (fun _ _ _ h => h) (by rfl) hHeld ?_ ?_
        rotate_left
        · intro wz hSz; go_simp; try with_reducible rfl
        simp only [Act.put, List.setIfInBounds_toArray, List.set_cons_zero, List.set_cons_succ]
        refine held_take (i := 2) (v := ?_) rfl (by kernel_rfl) (by kernel_rfl) (by kernel_rfl) (fun _ _ _ h => h) (by rfl) hHeld ?_ ?_
        rotate_left
        · intro wz hSz; obtain ⟨hl, c0, c1, c2, c3, c4, c5, c6, c7⟩ := HSB.out wz hSz.2; go_simp; try with_reducible rfl
        simp only [Act.put, List.setIfInBounds_toArray, List.set_cons_zero, List.set_cons_succ]
        refine held_take (i := 5) (v := ?_) rfl (by kernel_rfl) (by kernel_rfl) (by kernel_rfl) (fun _ _ _ h => h) (by rfl) hHeld ?_ ?_
        rotate_left
        · intro wz hSz; go_simp; try with_reducible rfl
        simp only [Act.put, List.setIfInBounds_toArray, List.set_cons_zero, List.set_cons_succ]
        refine held_take (i := 6) (v := ?_) rfl (by kernel_rfl) (by kernel_rfl) (by kernel_rfl) (fun _ _ _ h => h) (by rfl) hHeld ?_ ?_
        rotate_left
        · intro wz hSz; obtain ⟨hl, c0, c1, c2, c3, c4, c5, c6, c7⟩ := HSB.out wz hSz.2; go_simp; try with_reducible rfl
        simp only [Act.put, List.setIfInBounds_toArray, List.set_cons_zero, List.set_cons_succ]
        refine held_take (i := 9) (v := ?_) rfl (by kernel_rfl) (by kernel_rfl) (by kernel_rfl) (fun _ _ _ h => h) (by rfl) hHeld ?_ ?_
        rotate_left
        · intro wz hSz; go_simp; try with_reducible rfl
        simp only [Act.put, List.setIfInBounds_toArray, List.set_cons_zero, List.set_cons_succ]
        refine held_take (i := 10) (v := ?_) rfl (by kernel_rfl) (by kernel_rfl) (by kernel_rfl) (fun _ _ _ h => h) (by rfl) hHeld ?_ ?_
        rotate_left
        · intro wz hSz; obtain ⟨hl, c0, c1, c2, c3, c4, c5, c6, c7⟩ := HSB.out wz hSz.2; go_simp; try with_reducible rfl
        simp only [Act.put, List.setIfInBounds_toArray, List.set_cons_zero, List.set_cons_succ]
        refine held_call (i := 3) (by kernel_rfl) rfl (by rfl) (by go_simp; try with_reducible rfl) (cA _) ?_
        rintro e wy ⟨A2, cap2, rfl, hB2, _, _, hy⟩
        refine ⟨_, rfl, (And.intro (hHeld.1.trans (hy.mono hHeld.1.size)) ((hy.block xb (HSB.out _ hHeld.2).lt).trans hHeld.2)), ?_⟩
        replace hHeld := (And.intro (hHeld.1.trans (hy.mono hHeld.1.size)) ((hy.block xb (HSB.out _ hHeld.2).lt).trans hHeld.2))
        simp only [Act.put, List.setIfInBounds_toArray, List.set_cons_zero, List.set_cons_succ]
        replace hOW := hOW.later hy
        clear hy
        obtain ⟨v0, wx0, hr, ho0, hb, hn⟩ := oby_put hOW hM1 p1 cap2 hB2 (by (try simp only [List.length_append]); omega) hHeld.1.size
        have hHn : Below w.heap.size w wx0 ∧ wx0.heap[xb]? = some (.cells #[.int .i64 i, .int .i64 u, .int .i64 q, .int .i64 e, .int .i64 nn, .int .i64 K, .int .i64 m, .string t] 56) := ⟨hHeld.1.trans hb, (hn xb (HSB.out _ hHeld.2).lt (HXT.out _ _ _ hOW hHeld.2)).trans hHeld.2⟩
        refine held_make (i := 4) (v := v0) (w' := wx0) (by kernel_rfl) rfl (by rfl) (run_op_append (.tmp 28) (.tmp 31) rfl hr) hHn ?_
        simp only [Act.put, List.setIfInBounds_toArray, List.set_cons_zero, List.set_cons_succ]
        replace hHeld := hHn
        clear hr hb hn hHn hB2 hOW
        refine held_call (i := 7) (by kernel_rfl) rfl (by rfl) (by go_simp; try with_reducible rfl) (cB _) ?_
        rintro e wy ⟨A3, cap3, rfl, hB3, _, _, hy⟩
        refine ⟨_, rfl, (And.intro (hHeld.1.trans (hy.mono hHeld.1.size)) ((hy.block xb (HSB.out _ hHeld.2).lt).trans hHeld.2)), ?_⟩
        replace hHeld := (And.intro (hHeld.1.trans (hy.mono hHeld.1.size)) ((hy.block xb (HSB.out _ hHeld.2).lt).trans hHeld.2))
        simp only [Act.put, List.setIfInBounds_toArray, List.set_cons_zero, List.set_cons_succ]
        replace ho0 := ho0.later hy
        clear hy
        obtain ⟨v1, wx1, hr, ho1, hb, hn⟩ := oby_put ho0 (by simp only [List.length_append]; omega) p2 cap3 hB3 (by (try simp only [List.length_append]); omega) hHeld.1.size
        have hHn : Below w.heap.size w wx1 ∧ wx1.heap[xb]? = some (.cells #[.int .i64 i, .int .i64 u, .int .i64 q, .int .i64 e, .int .i64 nn, .int .i64 K, .int .i64 m, .string t] 56) := ⟨hHeld.1.trans hb, (hn xb (HSB.out _ hHeld.2).lt (HXT.out _ _ _ ho0 hHeld.2)).trans hHeld.2⟩
        refine held_make (i := 8) (v := v1) (w' := wx1) (by kernel_rfl) rfl (by rfl) (run_op_append (.tmp 32) (.tmp 35) rfl hr) hHn ?_
        simp only [Act.put, List.setIfInBounds_toArray, List.set_cons_zero, List.set_cons_succ]
        replace hHeld := hHn
        clear hr hb hn hHn hB3 ho0
        refine held_call (i := 11) (by kernel_rfl) rfl (by rfl) (by go_simp; try with_reducible rfl) (cC _) ?_
        rintro e wy ⟨A4, cap4, rfl, hB4, _, _, hy⟩
        refine ⟨_, rfl, (And.intro (hHeld.1.trans (hy.mono hHeld.1.size)) ((hy.block xb (HSB.out _ hHeld.2).lt).trans hHeld.2)), ?_⟩
        replace hHeld := (And.intro (hHeld.1.trans (hy.mono hHeld.1.size)) ((hy.block xb (HSB.out _ hHeld.2).lt).trans hHeld.2))
        simp only [Act.put, List.setIfInBounds_toArray, List.set_cons_zero, List.set_cons_succ]
        replace ho1 := ho1.later hy
        clear hy
        obtain ⟨v2, wx2, hr, ho2, hb, hn⟩ := oby_put ho1 (by simp only [List.length_append]; omega) p3 cap4 hB4 (by (try simp only [List.length_append]); omega) hHeld.1.size
        have hHn : Below w.heap.size w wx2 ∧ wx2.heap[xb]? = some (.cells #[.int .i64 i, .int .i64 u, .int .i64 q, .int .i64 e, .int .i64 nn, .int .i64 K, .int .i64 m, .string t] 56) := ⟨hHeld.1.trans hb, (hn xb (HSB.out _ hHeld.2).lt (HXT.out _ _ _ ho1 hHeld.2)).trans hHeld.2⟩
        refine held_make (i := 12) (v := v2) (w' := wx2) (by kernel_rfl) rfl (by rfl) (run_op_append (.tmp 36) (.tmp 39) rfl hr) hHn ?_
        simp only [Act.put, List.setIfInBounds_toArray, List.set_cons_zero, List.set_cons_succ]
        replace hHeld := hHn
        clear hr hb hn hHn hB4 ho1
        refine held_take (i := 13) (v := ?_) rfl (by kernel_rfl) (by kernel_rfl) (by kernel_rfl) (fun _ _ _ h => h) (by rfl) hHeld ?_ ?_
        rotate_left
        · intro wz hSz; go_simp; try with_reducible rfl
        simp only [Act.put, List.setIfInBounds_toArray, List.set_cons_zero, List.set_cons_succ]
        refine wpAnyH_done (by kernel_rfl) ?_ _
        go_wp2_with fail
        go_meet
        exact ⟨Lib.hid ho2, Lib.hid hHeld.1, Lib.hid (HSB.out _ hHeld.2)⟩
      case rest =>
        obtain ⟨HO3, HW3, HX3⟩ := hcut
        obtain ⟨hl3, y0, y1, y2, y3, y4, y5, y6, y7⟩ := HX3.out
        obtain ⟨M3, hM3⟩ : ∃ X, M ++ X1 ++ X2 ++ X3 = X := ⟨_, rfl⟩
        rw [hM3] at HO3 HMN
        have hM3l : 1 ≤ M3.length ∧ M3.length + X4.length ≤ 80000000 := by rw [← hM3]; simp only [List.length_append]; omega
        obtain ⟨h31, h32⟩ := hM3l
        clear hM3 cA cB cC KX hw2 HXB HO HW HO2 HW2 HB2 hsm hM1 hsum
        go_wp2_with fail
        refine (cR _).mono ?_
        rintro e w4 ⟨A5, cap5, rfl, hB5, _, _, hy⟩
        have hr5 := text_run cap5 hB5 HP.out
        have HO4 := Lib.hid (HO3.out.later hy)
        have HW4 := Lib.hid (HW3.out.trans (hy.mono HW3.out.size))
        clear hy y0 y1 y2 y3 y4 y5 y6 y7 cR hB5 HX3
        go_wp2_with fail
        refine (cT _).mono ?_
        rintro e w5 ⟨A6, cap6, rfl, hB6, _, _, hy⟩
        have HO5 := Lib.hid (HO4.out.later hy)
        have HW5 := Lib.hid (HW4.out.trans (hy.mono HW4.out.size))
        have hz5 := HW5.out.size
        clear hy hr5 cT
        go_wp2_with (at_builtin; refine wpList_append_own_src rfl (.tmp 41) (.tmp 46) 35 rfl w.heap.size _ M3 X4 rfl HO5.out h31 _ rfl (src_slice cap6 hB6 p4) (by omega) hz5 ?_; intro v6 w6 ho6 hb6)
        have HO6 : Hid (OBy w w6 (P0 ++ (L.take (k + 1)).flatMap seB) v6) := Lib.hid (by rw [HMN.out]; exact ho6)
        have HW6 := Lib.hid (HW5.out.trans hb6)
        clear ho6 hb6 hz5
        go_roundg (n - (k + 1))
        case measure => have := HKM.out; omega
        case rel => exact ⟨k + 1, by have := HKM.out; omega, by go_num, HO6, HW6⟩
    · have hkz : ¬ (k : Int) < (n : Int) := by omega
      have hkn : k = L.length := by have := HN.out; omega
      have HF : Hid (OwnBytes w (tabB L) (.returned u3) wr) := Lib.hid (by
        have h1 := HO.out
        rw [hkn, List.take_length, ← HG.out] at h1
        exact own_bytes h1 HW.out)
      go_wp2_with fail
      go_ret
      exact HF.out
end
end Go.Proofs.YtindkpfmflcibaaGreatDoor
