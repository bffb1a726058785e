/- The closure that reaches what a list names. -/
import Derived.Test.YtbacphifmbjooaaGrN
namespace Go.Proofs.Ytbacphifmbjooaa
open Go.RowKit

/-- The cells that the closure and Reach work on: n, who was reached, who is open. -/
structure RS (w1 : World) (n b0 : Nat) (D : Nat → Bool) (O : List Nat) (v : Value) (wr : World) : Prop where
  lt0 : b0 < w1.heap.size
  c0 : wr.cell? ⟨b0, 0, none⟩ = some (.int .i64 (n : Int))
  c8 : wr.cell? ⟨w1.heap.size + 1, 0, none⟩ = some (.slice (some ⟨w1.heap.size, 0, none⟩) n n)
  c9 : wr.cell? ⟨w1.heap.size + 1 + 1, 0, none⟩ = some v
  f9 : wr.frozen? ⟨w1.heap.size + 1 + 1, 0, none⟩ = false
  row : wr.rowIs w1.heap.size 4 n (fun j => .bool (D j))
  own : OwnZ wr (w1.heap.size + 1 + 1 + 1) v (iz O)
  size : w1.heap.size + 1 + 1 + 1 ≤ wr.heap.size
  base : Below w1.heap.size w1 wr
/-- What a list adds. -/
structure Grw (n : Nat) (D : Nat → Bool) (O : List Nat) (D' : Nat → Bool) (O' : List Nat) (T : List Int) : Prop where
  mono : ∀ i, D i = true → D' i = true
  all : ∀ x ∈ T, inn n x = true → D' x.toNat = true
  snd : ∀ i, D' i = true → D i = true ∨ ∃ x ∈ T, inn n x = true ∧ x.toNat = i
  opn : ∀ i, D' i = true → D i = true ∨ i ∈ O'
  sub : ∀ o ∈ O, o ∈ O'
  neu : ∀ o ∈ O', o ∈ O ∨ o < n ∧ D' o = true
  num : O'.length + cnt n D' = O.length + cnt n D
theorem Grw.zero (n : Nat) (D : Nat → Bool) (O : List Nat) : Grw n D O D O [] := ⟨fun _ h => h, by simp, fun _ h => .inl h, fun _ h => .inl h, fun _ h => h, fun _ h => .inl h, rfl⟩
theorem Grw.skip {n : Nat} {D D' : Nat → Bool} {O O' : List Nat} {T : List Int} {x : Int} (h : Grw n D O D' O' T) (hx : inn n x = true → D' x.toNat = true) : Grw n D O D' O' (T ++ [x]) :=
  ⟨h.mono, fun y hy hi => by
    rcases List.mem_append.1 hy with hy | hy
    · exact h.all y hy hi
    · rw [List.mem_singleton.1 hy] at hi ⊢; exact hx hi, fun i hi => by
    rcases h.snd i hi with h1 | ⟨y, hy, h2⟩
    · exact .inl h1
    · exact .inr ⟨y, List.mem_append_left _ hy, h2⟩, h.opn, h.sub, h.neu, h.num⟩
theorem Grw.add {n m : Nat} {D D' : Nat → Bool} {O O' : List Nat} {T : List Int} (h : Grw n D O D' O' T) (hm : m < n) (hd : D' m = false) : Grw n D O (upd D' m) (O' ++ [m]) (T ++ [(m : Int)]) := by
  refine ⟨fun i hi => upd_mono (h.mono i hi), fun y hy hi => ?_, fun i hi => ?_, fun i hi => ?_, fun o ho => List.mem_append_left _ (h.sub o ho), fun o ho => ?_, ?_⟩
  · rcases List.mem_append.1 hy with hy | hy
    · exact upd_mono (h.all y hy hi)
    · rw [List.mem_singleton.1 hy, Int.toNat_natCast]; exact upd_self _ _
  · rcases (upd_at _ _ _).1 hi with rfl | hi
    · exact .inr ⟨(i : Int), List.mem_append_right _ (List.mem_singleton.2 rfl), inn_nat hm, by simp⟩
    · rcases h.snd i hi with h1 | ⟨y, hy, h2⟩
      · exact .inl h1
      · exact .inr ⟨y, List.mem_append_left _ hy, h2⟩
  · rcases (upd_at _ _ _).1 hi with rfl | hi
    · exact .inr (List.mem_append_right _ (List.mem_singleton.2 rfl))
    · rcases h.opn i hi with h1 | h1
      · exact .inl h1
      · exact .inr (List.mem_append_left _ h1)
  · rcases List.mem_append.1 ho with ho | ho
    · rcases h.neu o ho with h1 | ⟨h1, h2⟩
      · exact .inl h1
      · exact .inr ⟨h1, upd_mono h2⟩
    · rw [List.mem_singleton.1 ho]; exact .inr ⟨hm, upd_self _ _⟩
  · have := cnt_upd hd n hm
    have := h.num
    rw [List.length_append, List.length_singleton]
    omega
theorem RS.mid {w1 wr w2 : World} {n b0 m : Nat} {D : Nat → Bool} {O : List Nat} {v : Value} {o : Obj} (h : RS w1 n b0 D O v wr) (hgr : ((wr.setCell ⟨w1.heap.size, m, none⟩ (.bool true)).alloc o).grownBy w2 v.ownBlock) :
    w2.cell? ⟨w1.heap.size + 1 + 1, 0, none⟩ = some v ∧ w2.frozen? ⟨w1.heap.size + 1 + 1, 0, none⟩ = false := by
  have hs := h.size
  have hb : w2.heap[w1.heap.size + 1 + 1]? = wr.heap[w1.heap.size + 1 + 1]? := by
    rw [hgr.block _ (by rw [alloc_size]; simp; omega) (fun e => by have := (h.own.lt _ e.symm).1; omega), Below.heap_alloc _ _ _ (by simp; omega)]
    exact Below.heap_setCell _ _ _ _ (by dsimp only; omega)
  exact ⟨(World.cell?_of_block (w := wr) (w' := w2) (a := ⟨w1.heap.size + 1 + 1, 0, none⟩) hb).trans h.c9, (World.frozen?_of_block (w := wr) (w' := w2) (a := ⟨w1.heap.size + 1 + 1, 0, none⟩) hb).trans h.f9⟩
/-- One more is reached. -/
theorem RS.add {w1 wr w2 : World} {n b0 m : Nat} {D : Nat → Bool} {O : List Nat} {v v' : Value} {o : Obj} (h : RS w1 n b0 D O v wr)
    (ho : w2.ownsRow (w1.heap.size + 1 + 1 + 1) 3 1 v' ((iz O).length + 1) (zs (iz O) ++ [.int .i64 (m : Int)])) (hgr : ((wr.setCell ⟨w1.heap.size, m, none⟩ (.bool true)).alloc o).grownBy w2 v.ownBlock) :
    RS w1 n b0 (upd D m) (O ++ [m]) v' (w2.setCell ⟨w1.heap.size + 1 + 1, 0, none⟩ v') := by
  have hs := h.size
  have h0 := h.lt0
  have hown1 : OwnZ (wr.setCell ⟨w1.heap.size, m, none⟩ (.bool true)) (w1.heap.size + 1 + 1 + 1) v (iz O) := own_stay h.own fun b hb => Below.heap_setCell _ _ _ _ (by have := (h.own.lt b hb).1; dsimp only; omega)
  have hown2 := hown1.alloc o
  have hblk : ∀ b, b < w1.heap.size + 1 + 1 + 1 → b ≠ w1.heap.size → w2.heap[b]? = wr.heap[b]? := fun b hb hne => by
    rw [hgr.block b (by rw [alloc_size]; simp; omega) (fun e => by have := (hown2.lt b e.symm).1; omega), Below.heap_alloc _ _ _ (by simp; omega)]
    exact Below.heap_setCell _ _ _ _ (by dsimp only; omega)
  have hblk2 : ∀ b, b < w1.heap.size + 1 + 1 + 1 → b ≠ w1.heap.size → b ≠ w1.heap.size + 1 + 1 → (w2.setCell ⟨w1.heap.size + 1 + 1, 0, none⟩ v').heap[b]? = wr.heap[b]? := fun b hb hne hn2 => by
    rw [Below.heap_setCell _ _ _ _ (by dsimp only; omega)]; exact hblk b hb hne
  have hsz : wr.heap.size + 1 ≤ w2.heap.size := by have := hgr.size; rw [alloc_size] at this; simpa using this
  refine ⟨h0, ?_, ?_, ?_, ?_, ?_, ?_, ?_, ?_⟩
  · exact (World.cell?_of_block (w := wr) (hblk2 b0 (by omega) (by omega) (by omega))).trans h.c0
  · exact (World.cell?_of_block (w := wr) (hblk2 (w1.heap.size + 1) (by omega) (by omega) (by omega))).trans h.c8
  · exact World.cell?_setCell_same _ _ _ ((World.cell?_of_block (w := wr) (w' := w2) (a := ⟨w1.heap.size + 1 + 1, 0, none⟩) (hblk (w1.heap.size + 1 + 1) (by omega) (by omega))).trans h.c9)
  · rw [World.frozen?_setCell]
    exact (World.frozen?_of_block (w := wr) (hblk (w1.heap.size + 1 + 1) (by omega) (by omega))).trans h.f9
  · have hr : (wr.setCell ⟨w1.heap.size, m, none⟩ (.bool true)).rowIs w1.heap.size 4 n (fun j => .bool (upd D m j)) := (h.row.set m _).congr fun i _ => by unfold upd; split <;> rfl
    exact (row_grown (hr.alloc o) hgr fun e => by have := (hown2.lt _ e).1; omega).setOther (by dsimp only; omega) _
  · refine own_stay ?_ fun b hb => Below.heap_setCell _ _ _ _ (by have := (ho.lt b hb).1; dsimp only; omega)
    rw [← iz_snoc, List.length_append, List.length_singleton, ← zs_snoc]
    exact ho
  · rw [show (w2.setCell ⟨w1.heap.size + 1 + 1, 0, none⟩ v').heap.size = w2.heap.size by simp]; omega
  · have h1 : Below w1.heap.size w1 (wr.setCell ⟨w1.heap.size, m, none⟩ (.bool true)) := h.base.setCell (Nat.le_refl _) _
    exact ((h1.alloc h1.size _).trans ((below_own hown2 hgr (by rw [alloc_size]; simp; omega)).mono (by omega))).setCell (by dsimp only; omega) _
def ClosEnd (w1 : World) (n b0 : Nat) (D : Nat → Bool) (O : List Nat) (l : List Int) (e : Ending) (w' : World) : Prop := e = .returned (.tuple #[]) ∧ ∃ D' O' v', RS w1 n b0 D' O' v' w' ∧ Grw n D O D' O' l
set_option maxHeartbeats 8000000 in
set_option maxRecDepth 100000 in
theorem clos_any (w1 : World) (n b0 : Nat) (A : Option Addr) (l : List Int) (c : Nat) (D : Nat → Bool) (O : List Nat) (v : Value) (w : World) (hn : n ≤ 4096) (hl : l.length ≤ 17592186044416) (hA : Is w1 A l) (h : RS w1 n b0 D O v w) (hnum : O.length + cnt n D ≤ n) :
    Calls Try.prog 27 #[.slice A l.length c, .pointer (some ⟨b0, 0, none⟩), .pointer (some ⟨w1.heap.size + 1, 0, none⟩), .pointer (some ⟨w1.heap.size + 1 + 1, 0, none⟩)] w (ClosEnd w1 n b0 D O l) := by
  obtain ⟨i0, hi, hz0, hz1, hz2⟩ := info_parts info_int
  have HA := Lib.hid hA
  have HS := Lib.hid h
  have HN := Lib.hid hnum
  obtain ⟨s1, hs1⟩ : ∃ s1, s1 = w1.heap.size := ⟨_, rfl⟩
  clear hA h hnum
  go_enter Try.func27, Try.ntmps27
  go_wp2_with fail
  go_loopg [9] (l.length) (fun q s9 wr => ∃ (a : Nat) (D' : Nat → Bool) (O' : List Nat) (v' : Value), a + q = l.length ∧ s9 = .int .i64 (a : Int) ∧ Hid (RS w1 n b0 D' O' v' wr) ∧ Hid (Grw n D O D' O' (l.take a)))
  case atStart => exact ⟨0, D, O, v, by omega, rfl, HS, Lib.hid (Grw.zero n D O)⟩
  case round =>
    clear HS
    obtain ⟨a, D', O', v', hal, rfl, HS, HG⟩ := hrel
    have HAL := Lib.hid hal
    by_cases ha : a < l.length
    · have haz : (a : Int) < (l.length : Int) := by omega
      obtain ⟨b, off, rfl, hc⟩ := is_at (HA.out.below HS.out.base) ha
      have HTK := Lib.hid (List.take_succ_eq_append_getElem ha)
      generalize l[a] = x at *
      have h0 := HS.out.c0
      have h8 := HS.out.c8
      have cw := within_any x n wr
      clear hal
      cases hin : inn n x with
      | false =>
        rw [hin] at cw
        have HG2 : Hid (Grw n D O D' O' (l.take (a + 1))) := Lib.hid (by rw [HTK.out]; exact HG.out.skip fun h => by rw [hin] at h; cases h)
        clear hin
        go_wp2_with fail
        (with_reducible refine cw.mono ?_)
        rintro e w2 ⟨rfl, rfl⟩
        clear cw
        go_wp2_with fail
        go_roundg (l.length - (a + 1))
        case measure => have := HAL.out; omega
        case rel => exact ⟨a + 1, D', O', v', by have := HAL.out; omega, by go_num, HS, HG2⟩
      | true =>
        rw [hin] at cw
        obtain ⟨m, rfl⟩ : ∃ m : Nat, x = (m : Int) := ⟨x.toNat, (inn_lt hin).2.symm⟩
        have hm : m < n := by have := (inn_lt hin).1; simpa using this
        have hmz : (m : Int) < (n : Int) := by omega
        have cm := HS.out.row.cell hm
        clear hin
        cases hd : D' m with
        | true =>
          rw [hd] at cm
          have HG2 : Hid (Grw n D O D' O' (l.take (a + 1))) := Lib.hid (by rw [HTK.out]; exact HG.out.skip fun _ => by simpa using hd)
          clear hd
          go_wp2_with fail
          (with_reducible refine cw.mono ?_)
          rintro e w2 ⟨rfl, rfl⟩
          clear cw
          go_wp2_with fail
          go_roundg (l.length - (a + 1))
          case measure => have := HAL.out; omega
          case rel => exact ⟨a + 1, D', O', v', by have := HAL.out; omega, by go_num, HS, HG2⟩
        | false =>
          rw [hd] at cm
          have HG2 : Hid (Grw n D O (upd D' m) (O' ++ [m]) (l.take (a + 1))) := Lib.hid (by rw [HTK.out]; exact HG.out.add hm hd)
          have hle : (iz O').length ≤ n := by have := HG.out.num; have := HN.out; rw [iz_len]; omega
          have hfz := HS.out.row.frozen m
          have hst := HS.out.own
          have hsz := HS.out.size
          have h9' : (wr.setCell ⟨w1.heap.size, m, none⟩ (.bool true)).cell? ⟨w1.heap.size + 1 + 1, 0, none⟩ = some v' := (World.cell?_of_block (w := wr) (a := ⟨w1.heap.size + 1 + 1, 0, none⟩) (Below.heap_setCell _ _ _ _ (by dsimp only; omega))).trans HS.out.c9
          have HOW := Lib.hid (show OwnZ (wr.setCell ⟨w1.heap.size, m, none⟩ (.bool true)) (w1.heap.size + 1 + 1 + 1) v' (iz O') from own_stay hst fun b hb => Below.heap_setCell _ _ _ _ (by have := (hst.lt b hb).1; dsimp only; omega))
          clear hd hst
          go_wp2_with fail
          (with_reducible refine cw.mono ?_)
          rintro e w2 ⟨rfl, rfl⟩
          clear cw
          go_wp2_with (at_builtin; refine wpList_append_own _ rfl _ _ 26 rfl (w1.heap.size + 1 + 1 + 1) 3 i0 (.int .i64 0) 1 8 Try.underlying26 hi hz0 hz1 hz2 rfl (by decide) _ _ _ rfl (HOW.out.alloc _) ⟨w2.heap.size, 0, none⟩ 1 1 [.int .i64 (m : Int)] rfl rfl (one_cell_at (by simp) _ _) ?c2 ?c3 ?c4 ?c5 ?_)
          case c2 => first | rfl | (intro u hu; simp at hu; subst hu; rfl)
          case c3 => unfold maxLen; omega
          case c4 => omega
          case c5 => first | omega | (rw [alloc_size]; simp; omega)
          intro v2 w3 hown' hgrow' _
          obtain ⟨A2, c2, rfl⟩ := own_slice hown'
          obtain ⟨h9c, h9f⟩ := HS.out.mid hgrow'
          have HS2 := Lib.hid (HS.out.add hown' hgrow')
          clear hown' hgrow'
          go_wp2_with fail
          go_roundg (l.length - (a + 1))
          case measure => have := HAL.out; omega
          case rel => exact ⟨a + 1, upd D' m, O' ++ [m], _, by have := HAL.out; omega, by go_num, HS2, HG2⟩
    · have haz : ¬ (a : Int) < (l.length : Int) := by omega
      have hG := HG.out
      rw [List.take_of_length_le (by omega)] at hG
      have HR : Hid (ClosEnd w1 n b0 D O l (.returned (.tuple #[])) wr) := Lib.hid ⟨rfl, D', O', v', HS.out, hG⟩
      clear hal hG
      go_wp2_with fail
      go_end0
      exact HR.out
end Go.Proofs.Ytbacphifmbjooaa
