/- Contracts of wire.PutBool, wire.PutText, the document's own Bool and Text: the bytes, in memory of the call's own. -/
import Derived.Test.YtamejodgilnchaaRefInt
namespace Go.Proofs.Ytamejodgilnchaa
open Go.RowKit

theorem own_len {B : Nat} {w : World} {A : Option Addr} {n cap : Nat} {k : Nat} {xs : List Value} {e : TypeId} (h : w.ownsRow B e 1 (.slice A n cap) k xs) : n = k := by
  rcases h.2 with ⟨e1, rfl⟩ | ⟨g, c, cur, e1, _⟩
  · injection e1
  · injection e1

set_option maxHeartbeats 400000 in
theorem putbool_any (A : Option Addr) (L : List UInt8) (cap : Nat) (t : Bool) (w : World) (hl : L.length + 1 ≤ 140737488355328) (hlc : L.length ≤ cap) (hB : Bs w A L) :
    Calls Try.prog 11 #[.slice A L.length cap, .bool t] w (OwnBytes w (L ++ putB t)) := by
  have hfull : Onto w.heap.size w (.slice A L.length L.length) L := Onto.of_full hB
  cases t
  · have hnew := fun (z : Nat × Nat) => bs_new w 0 5 z
    go_enter Try.func11, Try.ntmps11
    go_wp2_with (at_builtin; refine wpList_append_onto rfl (.tmp 12) (.tmp 14) rfl w.heap.size _ L [0] rfl (hfull.alloc _) ⟨w.heap.size, 0, none⟩ 1 rfl (bs_new _ 0 _ _) (Nat.le_refl 1) hl (by simp) ?_; intro b' w' ho hb)
    go_ret
    exact own_bytes ho (((Below.refl _ _).alloc (Nat.le_refl _) _).trans hb)
  · go_enter Try.func11, Try.ntmps11
    go_wp2_with (at_builtin; refine wpList_append_onto rfl (.tmp 12) (.tmp 14) rfl w.heap.size _ L [1] rfl (hfull.alloc _) ⟨w.heap.size, 0, none⟩ 1 rfl (bs_new _ 1 _ _) (Nat.le_refl 1) hl (by simp) ?_; intro b' w' ho hb)
    go_ret
    exact own_bytes ho (((Below.refl _ _).alloc (Nat.le_refl _) _).trans hb)

theorem row_one {w : World} (c : UInt8) : (w.alloc (.cells #[.int .u8 (c.toNat : Int)] 5)).ownsRow w.heap.size 5 1 (.slice (some ⟨w.heap.size, 0, none⟩) 1 1) [c].length (Lib.byteCells [c]) :=
  ⟨rfl, .inr ⟨_, 1, _, rfl, Nat.le_refl _, heap_alloc_new w _, Nat.le_refl _, by unfold maxLen; omega, rfl, rfl⟩⟩

set_option maxHeartbeats 400000 in
theorem refbool_any (t : Bool) (w : World) : Calls Try.prog 14 #[.bool t] w (OwnBytes w (putB t)) := by
  cases t
  · go_enter Try.func14, Try.ntmps14
    go_wp2
    go_ret
    exact own_bytes (L := [0]) (row_one 0) ((Below.refl _ _).alloc (Nat.le_refl _) _)
  · go_enter Try.func14, Try.ntmps14
    go_wp2
    go_ret
    exact own_bytes (L := [1]) (row_one 1) ((Below.refl _ _).alloc (Nat.le_refl _) _)

theorem putT_app (L s : List UInt8) : L ++ putI (s.length : Int) ++ s = L ++ putT s := by unfold putT; rw [List.append_assoc]

set_option maxHeartbeats 400000 in
theorem puttext_any (A : Option Addr) (L : List UInt8) (cap : Nat) (s : ByteArray) (w : World) (hl : L.length + s.data.toList.length + 10 ≤ 140737488355328) (hlc : L.length ≤ cap) (hB : Bs w A L) :
    Calls Try.prog 12 #[.slice A L.length cap, .string s] w (OwnBytes w (L ++ putT s.data.toList)) := by
  have hsz : s.size = s.data.toList.length := by simp
  have hs0 : (s.size : Int) = (s.data.toList.length : Int) := by rw [hsz]
  have hput := putint_any A L cap (s.size : Int) w (by omega) hlc hB (by omega) (by omega)
  have ht := putI_ten (v := (s.size : Int)) (by omega) (by omega)
  have hp := putI_pos (s.size : Int)
  obtain ⟨M, hM⟩ : ∃ M, M = L ++ putI (s.size : Int) := ⟨_, rfl⟩
  rw [← hM] at hput
  have hMl : 1 ≤ M.length ∧ M.length + s.data.toList.length ≤ 140737488355328 := by rw [hM, List.length_append]; omega
  obtain ⟨hM1, hM2⟩ := hMl
  have HM := Lib.hid hM
  have HS := Lib.hid hs0
  have HT := Lib.hid (putT_app L s.data.toList)
  clear hsz hs0 hB hM
  go_enter Try.func12, Try.ntmps12
  go_wp2_with fail
  refine hput.mono ?_
  rintro e w1 ⟨A1, cap1, rfl, _, _, hown, hb1⟩
  clear hput
  have hs1 := hb1.size
  have HO := Lib.hid hown
  clear hown
  go_wp2_with (at_builtin; refine wpList_append_own_src rfl (.tmp 9) (.tmp 10) 9 rfl w.heap.size _ M s.data.toList rfl HO.out hM1 (.string s) rfl (src_text _ _) hM2 hs1 ?_; intro b' w' ho hb)
  go_ret
  rw [HM.out, HS.out, HT.out] at ho
  exact own_bytes ho (hb1.trans hb)

set_option maxHeartbeats 400000 in
theorem reftext_any (s : ByteArray) (w : World) (hl : s.data.toList.length + 10 ≤ 140737488355328) :
    Calls Try.prog 15 #[.string s] w (OwnBytes w (putT s.data.toList)) := by
  have hsz : s.size = s.data.toList.length := by simp
  have hs0 : (s.size : Int) = (s.data.toList.length : Int) := by rw [hsz]
  have hput := refint_any (s.size : Int) w (by omega) (by omega)
  have ht := putI_ten (v := (s.size : Int)) (by omega) (by omega)
  have hp := putI_pos (s.size : Int)
  have HS := Lib.hid hs0
  clear hsz hs0
  go_enter Try.func15, Try.ntmps15
  go_wp2_with fail
  refine hput.mono ?_
  rintro e w1 ⟨A1, cap1, rfl, _, _, hown, hb1⟩
  clear hput
  have hs1 := hb1.size
  have HO := Lib.hid hown
  clear hown
  go_wp2_with (at_builtin; refine wpList_append_own_src rfl (.tmp 5) (.tmp 6) 9 rfl w.heap.size _ (putI (s.size : Int)) s.data.toList rfl HO.out (by omega) (.string s) rfl (src_text _ _) (by omega) hs1 ?_; intro b' w' ho hb)
  go_ret
  rw [HS.out] at ho
  exact own_bytes (L := putT s.data.toList) ho (hb1.trans hb)
end Go.Proofs.Ytamejodgilnchaa
