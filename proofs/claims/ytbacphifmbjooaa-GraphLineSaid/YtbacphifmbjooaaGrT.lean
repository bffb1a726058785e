/- The document's own order: told. -/
import Derived.Test.YtbacphifmbjooaaGrI
namespace Go.Proofs.Ytbacphifmbjooaa
open Go.RowKit

/-- Up to here: what was told lies in a row of the call's own, and who was, in another one. -/
structure TS (w : World) (B n : Nat) (L : List (List Int)) (D : Nat → Bool) (O : List Nat) (g : Nat) (v : Value) (wr : World) : Prop where
  own : OwnZ wr B v (iz O)
  row : wr.rowIs g 4 n (fun j => .bool (D j))
  base : Below w.heap.size w wr
  way : Way n L D O
  size : B ≤ wr.heap.size
theorem TS.len {w : World} {B n : Nat} {L : List (List Int)} {D : Nat → Bool} {O : List Nat} {g : Nat} {v : Value} {wr : World} (h : TS w B n L D O g v wr) : O.length + cnt n D = n := h.way.inv.len
/-- One more is told. -/
theorem TS.step {w : World} {B n : Nat} {L : List (List Int)} {D : Nat → Bool} {O : List Nat} {g : Nat} {v v' : Value} {wr w2 : World} {o : Obj} (h : TS w B n L D O g v wr) {k : Nat} (hk : k < n) (hc : can n L D k = true) (hl : ∀ j, j < k → can n L D j = false)
    (hg : w.heap.size ≤ g) (hgB : g < B) (ho : w2.ownsRow B 3 1 v' ((iz O).length + 1) (zs (iz O) ++ [.int .i64 (k : Int)])) (hgr : ((wr.setCell ⟨g, k, none⟩ (.bool true)).alloc o).grownBy w2 v.ownBlock) : TS w B n L (upd D k) (O ++ [k]) g v' w2 := by
  have hs := h.size
  have ho1 : OwnZ (wr.setCell ⟨g, k, none⟩ (.bool true)) B v (iz O) := own_stay h.own fun b hb => Below.heap_setCell _ _ _ _ (by have := (h.own.lt b hb).1; dsimp only; omega)
  have ho2 := ho1.alloc o
  refine ⟨?_, ?_, ?_, h.way.step hk hc hl, ?_⟩
  · unfold OwnZ
    rw [← iz_snoc, List.length_append, List.length_singleton, ← zs_snoc]
    exact ho
  · have hr : (wr.setCell ⟨g, k, none⟩ (.bool true)).rowIs g 4 n (fun j => .bool (upd D k j)) := (h.row.set k _).congr fun i _ => by unfold upd; split <;> rfl
    refine row_grown (hr.alloc o) hgr fun e => ?_
    have := (ho2.lt g e).1
    omega
  · have hb1 : Below w.heap.size w (wr.setCell ⟨g, k, none⟩ (.bool true)) := h.base.setCell (by dsimp only; omega) _
    exact (hb1.alloc hb1.size _).trans ((below_own ho2 hgr (by rw [alloc_size]; simp; omega)).mono (by omega))
  · have := hgr.size
    rw [alloc_size] at this
    simp at this
    omega
def ToldEnd (w : World) (n : Nat) (L : List (List Int)) (e : Ending) (w' : World) : Prop :=
  ∃ v g, e = .returned (.tuple #[v, .slice (some ⟨g, 0, none⟩) n n]) ∧ OwnZ w' w.heap.size v (iz (toldT n L).1) ∧ w'.rowIs g 4 n (fun j => .bool ((toldT n L).2 j)) ∧ Below w.heap.size w w'
theorem TS.stop {w : World} {B n : Nat} {L : List (List Int)} {D : Nat → Bool} {O : List Nat} {g : Nat} {v : Value} {wr : World} (h : TS w B n L D O g v wr) (hB : w.heap.size ≤ B) (hl : ∀ j, j < n → can n L D j = false) : ToldEnd w n L (.returned (.tuple #[v, .slice (some ⟨g, 0, none⟩) n n])) wr := by
  refine ⟨v, g, rfl, ?_⟩
  rw [h.way.stop hl]
  exact ⟨own_low h.own hB, h.row, h.base⟩
set_option maxHeartbeats 4000000 in
set_option maxRecDepth 100000 in
theorem rtold_any (n : Nat) (A : Option Addr) (L : List (List Int)) (cap : Nat) (w : World) (hn : n ≤ 4096) (hL : LL w A L) :
    Calls Try.prog 24 #[.int .i64 (n : Int), .slice A L.length cap] w (ToldEnd w n L) := by
  obtain ⟨i0, hi, hz0, hz1, hz2⟩ := info_parts info_int
  have hmk := mk_bools n (by omega)
  have H0 : Hid (TS w (w.heap.size + 1) n L (fun _ => false) [] w.heap.size (.slice none 0 0) (w.alloc (.cells (madeCells #[.bool false] n) 4))) :=
    Lib.hid ⟨World.ownsRow_nil _ _ _ _, World.rowIs_made w _ n _, below_alloc _ _, Way.zero n L, by rw [alloc_size]; omega⟩
  have HL := Lib.hid hL
  clear hL
  go_enter Try.func24, Try.ntmps24
  go_wp2_with fail
  go_loopg [7] (n) (fun m s7 wr => ∃ (D : Nat → Bool) (O : List Nat), m + O.length = n ∧ Hid (TS w (w.heap.size + 1) n L D O w.heap.size s7 wr))
  case atStart => exact ⟨_, [], by simp, H0⟩
  case round =>
    obtain ⟨D, O, hmo, HT⟩ := hrel
    have HMO := Lib.hid hmo
    clear H0 hmk hmo
    obtain ⟨G, hG⟩ : ∃ G, G = gk := ⟨_, rfl⟩
    subst hG
    obtain ⟨W, hW⟩ : ∃ W, W = wr := ⟨_, rfl⟩
    subst hW
    go_wp2_with fail
    go_loopg [8] (n) (fun m s8 wx => ∃ k : Nat, k + m = n ∧ s8 = .int .i64 (k : Int) ∧ wx = W ∧ Hid (∀ j, j < k → can n L D j = false))
    case atStart => exact ⟨0, by omega, rfl, rfl, Lib.hid fun j hj => by omega⟩
    case round =>
      obtain ⟨k, hkm, rfl, rfl, HK⟩ := hrel
      have HKM := Lib.hid hkm
      by_cases hk : k < n
      · have hkz : (k : Int) < (n : Int) := by omega
        have cd := HT.out.row.cell hk
        have cn := needs_any A L cap k wr (HL.out.below HT.out.base)
        have cf := fun B c (hl : (rowL L k).length ≤ 17592186044416) (hB : Is wr B (rowL L k)) => free_any n B (rowL L k) c w.heap.size D wr hl hB HT.out.row
        have next : can n L D k = false → Hid (∀ j, j < k + 1 → can n L D j = false) := fun hn => Lib.hid fun j hj => by
          by_cases e : j = k
          · subst e; exact hn
          · exact HK.out j (by omega)
        have HY := Lib.hid (can_yes (n := n) (L := L) (D := D) (k := k))
        have HN := Lib.hid (can_held (n := n) (L := L) (D := D) (k := k))
        have HDn := Lib.hid (can_done (n := n) (L := L) (D := D) (k := k))
        clear hkm
        cases hd : D k with
        | true =>
          rw [hd] at cd
          have HS := next (HDn.out hd)
          clear next hd cn cf HY HN HDn
          go_wp2_with fail
          go_roundg (n - (k + 1))
          case measure => have := HKM.out; omega
          case rel => exact ⟨k + 1, by have := HKM.out; omega, by go_num, rfl, HS⟩
        | false =>
          rw [hd] at cd
          have HDF := Lib.hid hd
          have HX := Lib.hid next
          clear next hd
          generalize hr : rowL L k = l at *
          have HRL := Lib.hid hr
          clear hr
          go_wp2_with fail
          (with_reducible refine cn.mono ?_)
          rintro e w1 ⟨B, c, rfl, h1, h2, h3, h4, rfl⟩
          have cf2 := cf B c h2 h3
          clear cn cf h3 h4
          go_wp2_with fail
          (with_reducible refine cf2.mono ?_)
          rintro e w2 ⟨rfl, rfl⟩
          clear cf2
          cases hfr : freeB n l D with
          | false =>
            have HS := HX.out (HN.out hfr)
            clear hfr
            go_wp2_with fail
            go_roundg (n - (k + 1))
            case measure => have := HKM.out; omega
            case rel => exact ⟨k + 1, by have := HKM.out; omega, by go_num, rfl, HS⟩
          | true =>
            have hcan := Lib.hid (HY.out HDF.out hfr)
            have hkn : ((k : Int) == (n : Int)) = false := by simp; omega
            have hfz := HT.out.row.frozen k
            have hst := HT.out.own
            have hsz := HT.out.size
            have hle : (iz O).length ≤ n := by have := HT.out.len; rw [iz_len]; omega
            have HOW := Lib.hid (show OwnZ (w2.setCell ⟨w.heap.size, k, none⟩ (.bool true)) (w.heap.size + 1) u7 (iz O) from own_stay hst fun b hb => Below.heap_setCell _ _ _ _ (by have := (hst.lt b hb).1; dsimp only; omega))
            clear hfr hst
            go_wp2_with (at_builtin; refine wpList_append_own _ rfl _ _ 26 rfl (w.heap.size + 1) 3 i0 (.int .i64 0) 1 8 Try.underlying26 hi hz0 hz1 hz2 rfl (by decide) _ _ _ rfl (HOW.out.alloc _) ⟨w2.heap.size, 0, none⟩ 1 1 [.int .i64 (k : Int)] rfl rfl (one_cell_at (by simp) _ _) ?c2 ?c3 ?c4 ?c5 ?_)
            case c2 => intro u hu; simp at hu; subst hu; rfl
            case c3 => unfold maxLen; omega
            case c4 => omega
            case c5 => rw [alloc_size]; simp; omega
            intro v' w3 hown' hgrow' _
            have HN2 := Lib.hid (HT.out.step hk hcan.out HK.out (Nat.le_refl _) (Nat.lt_succ_self _) hown' hgrow')
            clear hown' hgrow'
            go_wp2_with fail
            go_roundg (n - (O.length + 1))
            case measure => have := HMO.out; have := HN2.out.len; simp at this; omega
            case rel => exact ⟨_, O ++ [k], by have := HN2.out.len; simp at this ⊢; omega, HN2⟩
      · have hkz : ¬ (k : Int) < (n : Int) := by omega
        have hkn : ((k : Int) == (n : Int)) = true := by simp; omega
        have HR := Lib.hid (HT.out.stop (Nat.le_succ _) fun j hj => HK.out j (by omega))
        clear hkm
        go_wp2_with fail
        exact bodyPost_ret (v := .tuple #[u7, .slice (some ⟨w.heap.size, 0, none⟩) n n]) (by simp [results, Try.results24, go_sem]) rfl HR.out
end Go.Proofs.Ytbacphifmbjooaa
