/- Contracts of wire.PutText, the document's own Text: the bytes, in memory of the call's own. -/
import Derived.Test.YtfcigknalnmhcaaDoorRefInt
namespace Go.Proofs.YtfcigknalnmhcaaDoor
open Go.RowKit

theorem own_len {B : Nat} {w : World} {A : Option Addr} {n cap : Nat} {k : Nat} {xs : List Value} {e : TypeId} (h : w.ownsRow B e 1 (.slice A n cap) k xs) : n = k := by
  rcases h.2 with ⟨e1, rfl⟩ | ⟨g, c, cur, e1, _⟩
  · injection e1
  · injection e1

theorem putT_app (L s : List UInt8) : L ++ putI (s.length : Int) ++ s = L ++ putT s := by unfold putT; rw [List.append_assoc]

set_option maxHeartbeats 400000 in
theorem puttext_any (A : Option Addr) (L : List UInt8) (cap : Nat) (s : ByteArray) (w : World) (hl : L.length + s.data.toList.length + 10 ≤ 140737488355328) (hlc : L.length ≤ cap) (hB : Bs w A L) :
    Calls Tryd.prog 63 #[.slice A L.length cap, .string s] w (OwnBytes w (L ++ putT s.data.toList)) := by
  have hsz : s.size = s.data.toList.length := by simp
  have hs0 : (s.size : Int) = (s.data.toList.length : Int) := by rw [hsz]
  have hput := putint_any A L cap (s.size : Int) w (by omega) hlc hB (by omega) (by omega)
  have ht := putI_ten (v := (s.size : Int)) (by omega) (by omega)
  have hp := putI_pos (s.size : Int)
  obtain ⟨M, hM⟩ : ∃ M, M = L ++ putI (s.size : Int) := ⟨_, rfl⟩
  rw [← hM] at hput
  have hMl : 1 ≤ M.length ∧ M.length + s.data.toList.length ≤ 140737488355328 := by rw [hM, List.length_append]; omega
  obtain ⟨hM1, hM2⟩ := hMl
  have HM := Lib.hid hM
  have HS := Lib.hid hs0
  have HT := Lib.hid (putT_app L s.data.toList)
  clear hsz hs0 hB hM
  go_enter Tryd.func63, Tryd.ntmps63
  go_wp2_with fail
  refine hput.mono ?_
  rintro e w1 ⟨A1, cap1, rfl, _, _, hown, hb1⟩
  clear hput
  have hs1 := hb1.size
  have HO := Lib.hid hown
  clear hown
  go_wp2_with (at_builtin; refine wpList_append_own_src rfl (.tmp 9) (.tmp 10) 9 rfl w.heap.size _ M s.data.toList rfl HO.out hM1 (.string s) rfl (src_text _ _) hM2 hs1 ?_; intro b' w' ho hb)
  go_ret
  rw [HM.out, HS.out, HT.out] at ho
  exact own_bytes ho (hb1.trans hb)

set_option maxHeartbeats 400000 in
theorem reftext_any (s : ByteArray) (w : World) (hl : s.data.toList.length + 10 ≤ 140737488355328) :
    Calls Tryd.prog 65 #[.string s] w (OwnBytes w (putT s.data.toList)) := by
  have hsz : s.size = s.data.toList.length := by simp
  have hs0 : (s.size : Int) = (s.data.toList.length : Int) := by rw [hsz]
  have hput := refint_any (s.size : Int) w (by omega) (by omega)
  have ht := putI_ten (v := (s.size : Int)) (by omega) (by omega)
  have hp := putI_pos (s.size : Int)
  have HS := Lib.hid hs0
  clear hsz hs0
  go_enter Tryd.func65, Tryd.ntmps65
  go_wp2_with fail
  refine hput.mono ?_
  rintro e w1 ⟨A1, cap1, rfl, _, _, hown, hb1⟩
  clear hput
  have hs1 := hb1.size
  have HO := Lib.hid hown
  clear hown
  go_wp2_with (at_builtin; refine wpList_append_own_src rfl (.tmp 5) (.tmp 6) 9 rfl w.heap.size _ (putI (s.size : Int)) s.data.toList rfl HO.out (by omega) (.string s) rfl (src_text _ _) (by omega) hs1 ?_; intro b' w' ho hb)
  go_ret
  rw [HS.out] at ho
  exact own_bytes (L := putT s.data.toList) ho (hb1.trans hb)
theorem put_nil (v : Int) (w : World) (h0 : -9223372036854775808 ≤ v) (h1 : v ≤ 9223372036854775807) : Calls Tryd.prog 62 #[.slice none 0 0, .int .i64 v] w (OwnBytes w (putI v)) := by
  have c := putint_any none [] 0 v w (by simp) (by simp) (Bs.nil _ _) h0 h1
  rw [List.nil_append] at c
  exact c
theorem own_cap {B : Nat} {w : World} {A : Option Addr} {n cap : Nat} {xs : List Value} {e : TypeId} (h : w.ownsRow B e 1 (.slice A n cap) n xs) : n ≤ cap := by
  rcases h.2 with ⟨e1, rfl⟩ | ⟨g, c, cur, e1, _, _, hc, _⟩
  · exact Nat.zero_le _
  · injection e1 with _ _ e1; omega
end Go.Proofs.YtfcigknalnmhcaaDoor
