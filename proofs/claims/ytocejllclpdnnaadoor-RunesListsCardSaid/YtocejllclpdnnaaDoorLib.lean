/- The library's contracts at this translation's own numbers (utf8.DecodeRuneInString, strings.Builder), and runes.width: under the two tables of unicode/utf8 as their text lays them. -/
import Derived.Test.YtocejllclpdnnaaDoorShelf
import Derived.Test.YtocejllclpdnnaaDoorPcs
import Derived.Test.YtocejllclpdnnaaDoorCount
import Derived.WalkSpells
import Derived.Lib.Hide
namespace Go.Proofs.YtocejllclpdnnaaDoor
open Go.RowKit

/-- The two tables hold what their text lays. -/
def Tabs (w : World) : Prop := Lib.Utf8Tabs 0 1 w
theorem Tabs.later {w w' : World} (h : Tabs w) (hb : Below w.heap.size w w') : Tabs w' := Utf8Tabs_below h hb

theorem tailList (s : ByteArray) (pos : Nat) : (s.extract pos s.size).data.toList = s.data.toList.drop pos := by
  rw [Lib.extract_data, List.take_of_length_le (by rw [List.length_drop, ← Lib.size_eq]; omega)]
theorem decodeGo_tail (s : ByteArray) (pos : Nat) (h : pos < s.size) : Lib.decodeGo (s.extract pos s.size) = Utf8.decode s pos := by
  have hsz : (s.extract pos s.size).size ≠ 0 := by rw [Lib.size_eq, tailList, List.length_drop, ← Lib.size_eq]; omega
  unfold Lib.decodeGo
  rw [if_neg hsz, ← Lib.decodeL_drop s pos, ← tailList]
  rfl

theorem decodeRune_any (s : ByteArray) (w : World) (hT : Tabs w) :
    Calls Tryd.prog 46 #[.string s] w fun e w' => e = .returned (.tuple #[.int .i32 (Lib.decodeGo s).1, .int .i64 (Lib.decodeGo s).2]) ∧ Below w.heap.size w w' :=
  Any.utf8_DecodeRuneInString Tryd.more197 s w hT

set_option maxHeartbeats 400000 in
theorem width_any (s : ByteArray) (w : World) (hT : Tabs w) :
    Calls Tryd.prog 36 #[.string s] w fun e w' => e = .returned (.int .i64 (Lib.decodeGo s).2) ∧ Below w.heap.size w w' := by
  have c := decodeRune_any s w hT
  generalize (Lib.decodeGo s).1 = R at c
  generalize (Lib.decodeGo s).2 = K at c ⊢
  go_enter Tryd.func36, Tryd.ntmps36
  go_wp2_with (go_at_call 46; refine c.mono ?_; rintro e w' ⟨rfl, hb⟩)
  go_ret
  exact ⟨rfl, hb⟩

/-- runes.width of what lies behind a place: the width of the piece that begins there. -/
theorem width_at (s : ByteArray) (pos : Nat) (h : pos < s.size) (w : World) (hT : Tabs w) :
    Calls Tryd.prog 36 #[.string (s.extract pos s.size)] w fun e w' => e = .returned (.int .i64 (Utf8.decode s pos).2) ∧ Below w.heap.size w w' := by
  have := width_any (s.extract pos s.size) w hT
  rw [decodeGo_tail s pos h] at this
  exact this

theorem bGrow (B b n : Nat) (w : World) (hB : B ≤ b) (hbk : w.heap[b]? = some (.cells #[.pointer none, .slice none 0 0] 45 (0, 0))) (hBw : B ≤ w.heap.size) (hn : n ≤ 281474976710656) :
    Calls Tryd.prog 39 #[.pointer (some ⟨b, 0, none⟩), .int .i64 n] w fun e w' => e = .returned (.tuple #[]) ∧ (Lib.IsBuilderF 45 5 B b [] w' ∧ Below B w w') :=
  (Any.Builder_Grow_fresh Tryd.more165 Tryd.extraB B b n w hB hbk hBw hn).mono fun _ _ ⟨he, hb, hw⟩ => ⟨he, Lib.IsBuilderF.of (.inr hb), hw⟩
theorem bWriteString (B b : Nat) (bs : List Value) (s : ByteArray) (w : World) (h : Lib.IsBuilderF 45 5 B b bs w) (hlen : bs.length + s.size ≤ 140737488355328) (hBw : B ≤ w.heap.size) :
    Calls Tryd.prog 40 #[.pointer (some ⟨b, 0, none⟩), .string s] w fun e w' => e = .returned (.tuple #[.int .i64 s.size, .nilIface]) ∧ (Lib.BuilderAtF 45 5 B b (.pointer (some ⟨b, 0, none⟩)) (bs ++ Lib.strCells s) w' ∧ Below B w w' ∧ Lib.OthersKept 5 (some b) w w') :=
  Any.Builder_WriteString_k Tryd.more166 Tryd.extraB B b bs s w h hlen hBw
theorem bWriteRune (B b : Nat) (bs : List Value) (r : Int) (hr0 : -2147483648 ≤ r) (hr1 : r ≤ 2147483647) (w : World) (h : Lib.IsBuilderF 45 5 B b bs w) (hlen : bs.length + 4 ≤ 140737488355328) (hBw : B ≤ w.heap.size) :
    Calls Tryd.prog 41 #[.pointer (some ⟨b, 0, none⟩), .int .i32 r] w fun e w' => e = .returned (.tuple #[.int .i64 (Lib.runeCells r).length, .nilIface]) ∧ (Lib.BuilderAtF 45 5 B b (.pointer (some ⟨b, 0, none⟩)) (bs ++ Lib.runeCells r) w' ∧ Below B w w' ∧ Lib.OthersKept 5 (some b) w w') :=
  Any.Builder_WriteRune_k Tryd.more168 Tryd.extraB B b bs r hr0 hr1 w h hlen hBw
theorem bString (B b : Nat) (l : List UInt8) (w : World) (h : Lib.IsBuilderF 45 5 B b (Lib.byteCells l) w) (hBw : B ≤ w.heap.size) :
    Calls Tryd.prog 42 #[.pointer (some ⟨b, 0, none⟩)] w fun e w' => e = .returned (.string ⟨l.toArray⟩) ∧ (Lib.IsBuilderF 45 5 B b (Lib.byteCells l) w' ∧ Below B w w' ∧ Lib.OthersKept 5 (some b) w w') :=
  Any.Builder_String_any_k Tryd.more169 Tryd.extraB B b l w h hBw
end Go.Proofs.YtocejllclpdnnaaDoor
