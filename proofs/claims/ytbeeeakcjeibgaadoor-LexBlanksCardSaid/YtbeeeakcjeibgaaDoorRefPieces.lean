/- The contract of the document's own Pieces: a slice of the call's own that holds each piece's place, width, rune, and whether it is a byte that is none. -/
import Derived.Test.YtbeeeakcjeibgaaDoorRefAll
import Derived.Test.YtbeeeakcjeibgaaDoorList
namespace Go.Proofs.YtbeeeakcjeibgaaDoor
open Go.RowKit

def pcCells (pos : Nat) (x : Pc) : List Value := [.int .i64 (pos : Int), .int .i64 (x.2.length : Int), .int .i32 (x.1 : Int), .bool (decide (bad x))]
def cellsFrom : Nat → List Pc → List Value
  | _, [] => []
  | pos, x :: P => pcCells pos x ++ cellsFrom (pos + x.2.length) P
theorem cellsFrom_len : ∀ (P : List Pc) (pos : Nat), (cellsFrom pos P).length = P.length * 4
  | [], _ => by simp [cellsFrom]
  | x :: P, pos => by
    unfold cellsFrom
    rw [List.length_append, cellsFrom_len P, List.length_cons]
    show 4 + _ = _
    omega
theorem cellsFrom_snoc (x : Pc) : ∀ (P : List Pc) (pos : Nat), cellsFrom pos (P ++ [x]) = cellsFrom pos P ++ pcCells (pos + (flat P).length) x
  | [], pos => by simp [cellsFrom, flat_nil]
  | y :: P, pos => by
    rw [List.cons_append]
    unfold cellsFrom
    rw [cellsFrom_snoc x P, flat_cons, List.length_append, List.append_assoc, Nat.add_assoc]
/-- The cells of one piece among them. -/
theorem cellsFrom_at : ∀ (P : List Pc) (pos k : Nat) (x : Pc), P[k]? = some x → ∀ j, j < 4 → (cellsFrom pos P)[k * 4 + j]? = (pcCells (pos + (flat (P.take k)).length) x)[j]?
  | [], pos, k, x, h, _, _ => by simp at h
  | y :: P, pos, 0, x, h, j, hj => by
    obtain rfl : y = x := by simpa using h
    unfold cellsFrom
    rw [Nat.zero_mul, Nat.zero_add, List.take_zero, flat_nil]
    exact List.getElem?_append_left (show j < 4 from hj)
  | y :: P, pos, k + 1, x, h, j, hj => by
    unfold cellsFrom
    rw [List.getElem?_append_right (by show 4 ≤ _; omega)]
    have := cellsFrom_at P (pos + y.2.length) k x (by simpa using h) j hj
    show (cellsFrom (pos + y.2.length) P)[(k + 1) * 4 + j - 4]? = _
    rw [show (k + 1) * 4 + j - 4 = k * 4 + j by omega, this, List.take_succ_cons, flat_cons, List.length_append, Nat.add_assoc]

theorem piece_at (s : ByteArray) (pos : Nat) (h : pos < s.size) : oneV s pos = .agg (pcCells pos ((Utf8.decode s pos).1, (s.data.toList.drop pos).take (Utf8.decode s pos).2)).toArray := by
  have hw := (width_in s pos h).2
  have hl : ((s.data.toList.drop pos).take (Utf8.decode s pos).2).length = (Utf8.decode s pos).2 := by
    rw [List.length_take, List.length_drop, ← Lib.size_eq]; omega
  simp only [oneV, pcCells, bad, hl]
theorem pcs_at (s : ByteArray) (pos : Nat) (h : pos < s.size) : pcs (s.data.toList.drop pos) = ((Utf8.decode s pos).1, (s.data.toList.drop pos).take (Utf8.decode s pos).2) :: pcs (s.data.toList.drop (pos + (Utf8.decode s pos).2)) := by
  rw [pcs_step _ (drop_ne s pos h), Lib.decodeL_drop, List.drop_drop]

def PiecesRel (s : ByteArray) (B : Nat) (w wr : World) (pos : Nat) (v : Value) (P : List Pc) : Prop :=
  wr.ownsRow B 50 4 v P.length (cellsFrom 0 P) ∧ Below B w wr ∧ B ≤ wr.heap.size ∧ P ++ pcs (s.data.toList.drop pos) = pcs s.data.toList ∧ (flat P).length = pos ∧ P.length ≤ pos ∧ pos ≤ s.size
def PiecesEnd (s : ByteArray) (w : World) (e : Ending) (w' : World) : Prop :=
  ∃ v, e = .returned v ∧ w'.ownsRow w.heap.size 50 4 v (pcs s.data.toList).length (cellsFrom 0 (pcs s.data.toList)) ∧ Below w.heap.size w w'

set_option maxHeartbeats 4000000 in
set_option maxRecDepth 1000000 in
theorem pieces_any (s : ByteArray) (w : World) (hs : s.size ≤ 1099511627776) :
    Calls Tryd.prog 24 #[.string s] w (PiecesEnd s w) := by
  obtain ⟨i0, hi, hz0, hz1, hz2⟩ := info_parts (show (Tryd.prog.info? 50).map (fun i => (i.zero, i.size, i.bytes)) = some (some (.agg #[.int .i64 0, .int .i64 0, .int .i32 0, .bool false]), 4, 24) by kernel_rfl)
  have h0 : PiecesRel s w.heap.size w w 0 (.slice none 0 0) [] := ⟨World.ownsRow_nil _ _ _ _, Below.refl _ _, Nat.le_refl _, rfl, rfl, Nat.le_refl _, Nat.zero_le _⟩
  have H0 := Lib.hid h0
  clear h0
  go_enter Tryd.func24, Tryd.ntmps24
  go_wp2
  go_loopw [3, 4] (fun v iv wr => ∃ pos P, PiecesRel s w.heap.size w wr pos v P ∧ iv = .int .i64 (pos : Int)) (fun _ iv _ => s.size - (Go.RowKit.intOf iv).toNat)
  case atStart => exact ⟨0, [], H0.out, rfl⟩
  case round =>
    obtain ⟨pos, P, ⟨hown, hbw, hBw, hacc, hfl, hPp, hps⟩, rfl⟩ := hrel
    have HOWN := Lib.hid hown
    have HACC := Lib.hid hacc
    have HFL := Lib.hid hfl
    clear hown hacc hfl
    by_cases hp : pos < s.size
    · have hpz : (pos : Int) < (s.size : Int) := by omega
      obtain ⟨hw1, hw2⟩ := width_in s pos hp
      have hone := one_any s pos wr hp (by omega)
      rw [piece_at s pos hp] at hone
      unfold pcCells at hone
      have hpc := pcs_at s pos hp
      obtain ⟨x, hx⟩ : ∃ x : Pc, ((Utf8.decode s pos).1, (s.data.toList.drop pos).take (Utf8.decode s pos).2) = x := ⟨_, rfl⟩
      have hxl : x.2.length = (Utf8.decode s pos).2 := by
        rw [← hx]; dsimp only
        rw [List.length_take, List.length_drop, ← Lib.size_eq]; omega
      rw [hx] at hone hpc
      have hone' : Calls Tryd.prog 45 #[.string s, .int .i64 (pos : Int)] wr fun e w' => e = .returned (.agg #[.int .i64 (pos : Int), .int .i64 (x.2.length : Int), .int .i32 (x.1 : Int), .bool (decide (bad x))]) ∧ Below wr.heap.size wr w' := hone
      have HONE := Lib.hid hone'
      have HPC := Lib.hid hpc
      have HXL := Lib.hid hxl
      have hxl' : x.2.length ≤ (Utf8.decode s pos).2 ∧ (Utf8.decode s pos).2 ≤ x.2.length := by omega
      obtain ⟨hxa, hxb⟩ := hxl'
      clear hone hone' hpc hx hxl
      go_wp2_with fail
      refine HONE.out.mono ?_
      rintro e w1 ⟨rfl, b1⟩
      have hown1 := own_later HOWN.out b1
      have hbw1 := hbw.trans (b1.mono hBw)
      have hBw1 : w.heap.size ≤ w1.heap.size := Nat.le_trans hBw b1.size
      have HOWN1 := Lib.hid hown1
      clear hown1 b1 hbw hBw
      go_wp2_with (at_builtin; refine wpList_append_own _ rfl _ _ 42 rfl w.heap.size 50 i0 _ 4 24 Tryd.underlying42 hi hz0 hz1 hz2 rfl (by decide) _ _ _ rfl ((HOWN1.out.alloc _).alloc _) ⟨w1.heap.size + 1, 0, none⟩ 1 1 [.int .i64 (pos : Int), .int .i64 (x.2.length : Int), .int .i32 (x.1 : Int), .bool (decide (bad x))] rfl rfl ?c1 ?c2 ?c3 ?c4 ?c5 ?_)
      case c1 =>
        intro j u hj
        match j, hj with
        | 0, hj => simp at hj; subst hj; simp [Addr.add]
        | 1, hj => simp at hj; subst hj; simp [Addr.add]
        | 2, hj => simp at hj; subst hj; simp [Addr.add]
        | 3, hj => simp at hj; subst hj; simp [Addr.add]
        | j + 4, hj => simp at hj
      case c2 => intro u hu; simp at hu; rcases hu with rfl | rfl | rfl | rfl <;> rfl
      case c3 => unfold maxLen; omega
      case c4 => omega
      case c5 => rw [alloc_size, alloc_size]; omega
      intro v' w2 hown' hgrow _
      have hsz1 : ((w1.alloc (.cells #[.int .i64 (pos : Int), .int .i64 (x.2.length : Int), .int .i32 (x.1 : Int), .bool (decide (bad x))] 50)).alloc (.cells #[.int .i64 (pos : Int), .int .i64 (x.2.length : Int), .int .i32 (x.1 : Int), .bool (decide (bad x))] 50)).heap.size = w1.heap.size + 2 := by rw [alloc_size, alloc_size]
      have hp2 : w2.heap[w1.heap.size]? = some (.cells #[.int .i64 (pos : Int), .int .i64 (x.2.length : Int), .int .i32 (x.1 : Int), .bool (decide (bad x))] 50) := by
        rw [hgrow.block w1.heap.size (by rw [hsz1]; omega) (fun e => by have := (HOWN1.out.lt w1.heap.size e.symm).2; omega), Below.heap_alloc _ _ _ (by rw [alloc_size]; omega)]
        exact alloc_at w1 _
      have hcell : w2.cell? ⟨w1.heap.size, 1, none⟩ = some (.int .i64 (x.2.length : Int)) := by rw [Lib.cell_of_heap hp2]; rfl
      have hbw2 : Below w.heap.size w w2 := ((hbw1.alloc hBw1 _).alloc (by rw [alloc_size]; omega) _).grown hgrow (by rw [hsz1]; omega) (fun k hk => (HOWN1.out.lt k hk).1)
      have HOWN2 := Lib.hid hown'
      clear hp2 hsz1 hown' hgrow
      go_wp2
      go_roundw
      case rel =>
        refine ⟨pos + x.2.length, P ++ [x], ⟨?_, hbw2, hbw2.size, ?_, ?_, ?_, by omega⟩, by go_num⟩
        · rw [List.length_append, cellsFrom_snoc, HFL.out, Nat.zero_add]; exact HOWN2.out
        · rw [List.append_assoc, List.singleton_append, HXL.out, ← HPC.out]; exact HACC.out
        · rw [flat_append, List.length_append, HFL.out, flat_cons, flat_nil, List.append_nil]
        · rw [List.length_append, List.length_singleton]; omega
      case measure => simp [Go.RowKit.intOf]; omega
    · have hpz : ¬ ((pos : Int) < (s.size : Int)) := by omega
      have hfin := HACC.out
      rw [drop_nil s pos hp, pcs_nil, List.append_nil] at hfin
      have HFIN := Lib.hid hfin
      clear hfin
      go_wp2
      go_ret
      have := HFIN.out
      subst this
      exact ⟨_, rfl, HOWN.out, hbw⟩
end Go.Proofs.YtbeeeakcjeibgaaDoor
