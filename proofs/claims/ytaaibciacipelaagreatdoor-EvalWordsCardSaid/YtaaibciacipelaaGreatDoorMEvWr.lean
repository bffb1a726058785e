/- EvalWords: its drawn region, by what each operation leaves. -/
import Derived.Test.YtaaibciacipelaaGreatDoorMEvWd
import Derived.Test.YtaaibciacipelaaGreatDoorMRegInv
namespace Go.Proofs.YtaaibciacipelaaGreatDoor
open Go.RowKit

/-- What each operation of the region leaves. -/
def EWr (l m : List UInt8) (gL B0 : Nat) (j : Nat) (v : Value) (w : World) : Prop :=
  match j with
  | 0 => v = .string ⟨l.toArray⟩
  | 1 => v = .string ⟨m.toArray⟩
  | 2 => v = .string ⟨(l ++ m).toArray⟩
  | 3 => v = EV 2 0 ⟨(l ++ m).toArray⟩ (.slice none 0 0)
  | 4 => v = EV 4 0 ⟨#[110]⟩ (.slice none 0 0)
  | 5 => ∃ g, v = .slice (some ⟨g, 0, none⟩) 2 2 ∧ ExIn w (fun _ => True) (cutE (l ++ m)) (EV 21 0 ⟨#[]⟩ (.slice (some ⟨g, 0, none⟩) 2 2))
  | 6 => ∃ g, v = EV 21 0 ⟨#[]⟩ (.slice (some ⟨g, 0, none⟩) 2 2) ∧ ExIn w (fun _ => True) (cutE (l ++ m)) v
  | 7 => ∃ g, v = .slice (some ⟨g, 0, none⟩) 1 1 ∧ Ts w (some ⟨g, 0, none⟩) [⟨#[110]⟩]
  | 8 => v = .pointer (some ⟨gL, 1, none⟩)
  | 9 => v = .int .i64 (countL l : Int)
  | 10 => v = V3 1 (countL l : Int) ⟨#[]⟩
  | 11 => ∃ g, v = .slice (some ⟨g, 0, none⟩) 1 1 ∧ Vs w (some ⟨g, 0, none⟩) [⟨1, (countL l : Int), []⟩]
  | 12 => v = V3 3 0 ⟨l.toArray⟩
  | 13 => ∃ g, v = .pointer (some ⟨g, 0, none⟩) ∧ B0 ≤ g ∧ NB w g ∧ At3 w g 0 0 ⟨#[]⟩
  | _ => True
theorem EWr.keep {l m : List UInt8} {gL B0 : Nat} : ∀ (j : Nat) (v : Value) (w w' : World), Below w.heap.size w w' → EWr l m gL B0 j v w → EWr l m gL B0 j v w'
  | 0, _, _, _, _, h => h
  | 1, _, _, _, _, h => h
  | 2, _, _, _, _, h => h
  | 3, _, _, _, _, h => h
  | 4, _, _, _, _, h => h
  | 5, _, _, _, hb, ⟨g, e, h⟩ => ⟨g, e, h.later hb⟩
  | 6, _, _, _, hb, ⟨g, e, h⟩ => ⟨g, e, h.later hb⟩
  | 7, _, _, _, hb, ⟨g, e, h⟩ => ⟨g, e, h.below hb⟩
  | 8, _, _, _, _, h => h
  | 9, _, _, _, _, h => h
  | 10, _, _, _, _, h => h
  | 11, _, _, _, hb, ⟨g, e, h⟩ => ⟨g, e, h.below hb⟩
  | 12, _, _, _, _, h => h
  | 13, _, _, _, hb, ⟨g, e, h0, h1, h2⟩ => ⟨g, e, h0, h1.same (hb.block _ h1.lt), h2.later hb⟩
  | _ + 14, _, _, _, _, _ => trivial
theorem cut_row_new (l : List UInt8) (hl : l.length ≤ 800) (w : World) : ExIn (w.alloc (.cells #[.int .i64 2, .int .i64 0, .string ⟨l.toArray⟩, .slice none 0 0, .int .i64 4, .int .i64 0, .string ⟨#[110]⟩, .slice none 0 0] 24)) (fun _ => True) (cutE l) (EV 21 0 ⟨#[]⟩ (.slice (some ⟨w.heap.size, 0, none⟩) 2 2)) := by
  have hc := cells_of_alloc w #[.int .i64 2, .int .i64 0, .string ⟨l.toArray⟩, .slice none 0 0, .int .i64 4, .int .i64 0, .string ⟨#[110]⟩, .slice none 0 0] 24
  have hnb := NB.new w #[.int .i64 2, .int .i64 0, .string ⟨l.toArray⟩, .slice none 0 0, .int .i64 4, .int .i64 0, .string ⟨#[110]⟩, .slice none 0 0] 24
  have hz := alloc_size w (.cells #[.int .i64 2, .int .i64 0, .string ⟨l.toArray⟩, .slice none 0 0, .int .i64 4, .int .i64 0, .string ⟨#[110]⟩, .slice none 0 0] 24)
  exact ex_two (op := 21) ⟨by decide, by decide⟩ trivial (by omega) (RowIn.one hnb (hc 0) (hc 1) (hc 2) (hc 3) (text_leaf hl) (RowIn.one hnb (hc 4) (hc 5) (hc 6) (hc 7) (ExIn.leaf (op := 4) (n := 0) (s := [110]) ⟨⟨by decide, by decide⟩, ⟨by decide, by decide⟩, by decide⟩) .none))
theorem name_row_new (w : World) : Ts (w.alloc (.cells #[.string ⟨#[110]⟩] 9)) (some ⟨w.heap.size, 0, none⟩) [⟨#[110]⟩] := fun _ => ⟨w.heap.size, 0, rfl, fun j hj => by
  rw [cells_of_alloc]
  match j, hj with
  | 0, _ => rfl⟩
theorem val_row_new (n : Int) (w : World) : Vs (w.alloc (.cells #[.int .i64 1, .int .i64 n, .string ⟨#[]⟩] 41)) (some ⟨w.heap.size, 0, none⟩) [⟨1, n, []⟩] := fun _ => ⟨w.heap.size, 0, rfl, fun k v hk => by
  have c3 := cells_of_alloc w #[.int .i64 1, .int .i64 n, .string ⟨#[]⟩] 41
  match k, hk with
  | 0, hk => obtain rfl : (⟨1, n, []⟩ : Va) = v := by simpa using hk
             exact ⟨c3 0, c3 1, c3 2⟩
  | k + 1, hk => simp at hk⟩
end Go.Proofs.YtaaibciacipelaaGreatDoor
