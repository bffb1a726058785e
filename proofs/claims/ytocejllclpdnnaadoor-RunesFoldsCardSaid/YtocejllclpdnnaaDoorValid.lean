/- The contract of runes.Valid (utf8.ValidString): for every string it tells whether no piece is a byte that is none. -/
import Derived.Test.YtocejllclpdnnaaDoorLib
import Derived.Shelf.Unicode.ValidAny
namespace Go.Proofs.YtocejllclpdnnaaDoor
open Go.RowKit

def validL (l : List UInt8) : Bool := (pcs l).all fun x => !decide (bad x)
theorem validD_eq (l : List UInt8) : Lib.validD l = validL l := by
  induction l using pcs_induct with
  | h0 => rfl
  | h1 l hne ih =>
    have hw := Lib.decodeL_le l hne
    unfold validL at ih ⊢
    rw [Lib.validD_step l hne, pcs_step l hne, List.all_cons, ← ih]
    have e : bad ((Lib.decodeL l).1, l.take (Lib.decodeL l).2) ↔ ((Lib.decodeL l).1 = 65533 ∧ (Lib.decodeL l).2 = 1) := by
      unfold bad; simp only [List.length_take, Nat.min_eq_left hw]
    by_cases hb : (Lib.decodeL l).1 = 65533 ∧ (Lib.decodeL l).2 = 1
    · rw [if_pos hb, decide_eq_true (e.2 hb)]; rfl
    · rw [if_neg hb, decide_eq_false (fun h => hb (e.1 h))]; rfl

theorem validString_any (s : ByteArray) (w : World) (hs : s.size ≤ 9223372036854775807) (hT : Tabs w) :
    Calls Tryd.prog 33 #[.string s] w fun e w' => e = .returned (.bool (validL s.data.toList)) ∧ Below w.heap.size w w' := by
  have := Any.utf8_ValidString Tryd.more196 s w hs hT
  rw [validD_eq] at this
  exact this
set_option maxHeartbeats 400000 in
theorem valid_any (s : ByteArray) (w : World) (hs : s.size ≤ 9223372036854775807) (hT : Tabs w) :
    Calls Tryd.prog 19 #[.string s] w fun e w' => e = .returned (.bool (validL s.data.toList)) ∧ Below w.heap.size w w' := by
  have c := validString_any s w hs hT
  generalize validL s.data.toList = V at c ⊢
  go_enter Tryd.func19, Tryd.ntmps19
  go_wp2_with (go_at_call 33; refine c.mono ?_; rintro e w' ⟨rfl, hb⟩)
  go_ret
  exact ⟨rfl, hb⟩
theorem runeCountInString_any (s : ByteArray) (w : World) (hs : s.size < 9223372036854775807) :
    Calls Tryd.prog 34 #[.string s] w fun e w' => e = .returned (.int .i64 (Lib.runeCount s)) ∧ Below w.heap.size w w' :=
  (Any.utf8_RuneCountInString Tryd.more195 s w hs).mono fun _ _ ⟨he, _, hw⟩ => ⟨he, hw ▸ iter_below w s _⟩
end Go.Proofs.YtocejllclpdnnaaDoor
