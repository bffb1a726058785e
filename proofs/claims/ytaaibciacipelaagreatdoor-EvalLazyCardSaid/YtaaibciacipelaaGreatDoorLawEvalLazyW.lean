/- The statement EvalLazy: what is not needed is not worked out, whatever stands there. Conditions: none but what the card ties (the library's variables, and the table of forms, hold what their texts lay). -/
import Derived.Test.YtaaibciacipelaaGreatDoorHB
import Derived.Test.YtaaibciacipelaaGreatDoorGE
import Derived.Test.YtaaibciacipelaaGreatDoorMFew9
import Derived.Test.YtaaibciacipelaaGreatDoorGX
import Derived.Test.YtaaibciacipelaaGreatDoorHF
namespace Go.Proofs.YtaaibciacipelaaGreatDoor
open Go.RowKit

def yesE : Ex := .mk 3 1 [] []
def noE : Ex := .mk 3 0 [] []
def ifE (a b c : Ex) : Ex := .mk 18 0 [] [a, b, c]
def orE (a b : Ex) : Ex := .mk 17 0 [] [a, b]
def andE (a b : Ex) : Ex := .mk 16 0 [] [a, b]
theorem if_yes (N : List ByteArray) (V : List Va) {e f : Ex} (hc : chkB (ifE yesE e f) = true) (he : chkB e = true) : evA N V (ifE yesE e f) = evA N V e := by
  unfold evA
  rw [hc, he, if_pos rfl, if_pos rfl]
  unfold ifE yesE
  rw [evalE_op (by decide) (by decide), evalL, evalL, evalL, evalL, evalE]
  rfl
theorem if_no (N : List ByteArray) (V : List Va) {e f : Ex} (hc : chkB (ifE noE f e) = true) (he : chkB e = true) : evA N V (ifE noE f e) = evA N V e := by
  unfold evA
  rw [hc, he, if_pos rfl, if_pos rfl]
  unfold ifE noE
  rw [evalE_op (by decide) (by decide), evalL, evalL, evalL, evalL, evalE]
  rfl
theorem or_yes (N : List ByteArray) (V : List Va) {e : Ex} (hc : chkB (orE yesE e) = true) : evA N V (orE yesE e) = ⟨2, 1, []⟩ := by
  unfold evA
  rw [hc, if_pos rfl]
  unfold orE yesE
  rw [evalE_op (by decide) (by decide), evalL, evalL, evalL, evalE]
  rfl
theorem and_no (N : List ByteArray) (V : List Va) {e : Ex} (hc : chkB (andE noE e) = true) : evA N V (andE noE e) = ⟨2, 0, []⟩ := by
  unfold evA
  rw [hc, if_pos rfl]
  unfold andE noE
  rw [evalE_op (by decide) (by decide), evalL, evalL, evalL, evalE]
  rfl
theorem yes_leaf {w : World} {n : Int} (h : n = 0 ∨ n = 1) : ExIn w (fun _ => True) (.mk 3 n [] []) (EV 3 n ⟨#[]⟩ (.slice none 0 0)) :=
  ExIn.leaf ⟨⟨by decide, by decide⟩, ⟨by omega, by omega⟩, by decide⟩
/-- A row of three, made. -/
theorem lz_three {w : World} {a b c : Ex} {x0 x1 x2 x3 y0 y1 y2 y3 z0 z1 z2 z3 : Value} (op : Int) (hop : In64 op) (ha : ExIn w (fun _ => True) a (.agg #[x0, x1, x2, x3])) (hb : ExIn w (fun _ => True) b (.agg #[y0, y1, y2, y3])) (hc : ExIn w (fun _ => True) c (.agg #[z0, z1, z2, z3])) :
    ExIn (w.alloc (.cells #[x0, x1, x2, x3, y0, y1, y2, y3, z0, z1, z2, z3] 24)) (fun _ => True) (.mk op 0 [] [a, b, c]) (EV op 0 ⟨#[]⟩ (.slice (some ⟨w.heap.size, 0, none⟩) 3 3)) := by
  have k := cells_of_alloc w #[x0, x1, x2, x3, y0, y1, y2, y3, z0, z1, z2, z3] 24
  have nb := NB.new w #[x0, x1, x2, x3, y0, y1, y2, y3, z0, z1, z2, z3] 24
  have hl := below_alloc w (.cells #[x0, x1, x2, x3, y0, y1, y2, y3, z0, z1, z2, z3] 24)
  have hz := alloc_size w (.cells #[x0, x1, x2, x3, y0, y1, y2, y3, z0, z1, z2, z3] 24)
  exact ExIn.mk (ks := [a, b, c]) ⟨hop, ⟨by decide, by decide⟩, by decide⟩ (Nat.le_refl _) (by simp) (fun _ => ⟨w.heap.size, 0, rfl, trivial, by omega,
    RowIn.one nb (k 0) (k 1) (k 2) (k 3) (ha.later hl) (RowIn.one nb (k 4) (k 5) (k 6) (k 7) (hb.later hl) (RowIn.one nb (k 8) (k 9) (k 10) (k 11) (hc.later hl) .none))⟩)
theorem lz_two {w : World} {a b : Ex} {x0 x1 x2 x3 y0 y1 y2 y3 : Value} (op : Int) (hop : In64 op) (ha : ExIn w (fun _ => True) a (.agg #[x0, x1, x2, x3])) (hb : ExIn w (fun _ => True) b (.agg #[y0, y1, y2, y3])) :
    ExIn (w.alloc (.cells #[x0, x1, x2, x3, y0, y1, y2, y3] 24)) (fun _ => True) (.mk op 0 [] [a, b]) (EV op 0 ⟨#[]⟩ (.slice (some ⟨w.heap.size, 0, none⟩) 2 2)) := by
  have k := cells_of_alloc w #[x0, x1, x2, x3, y0, y1, y2, y3] 24
  have nb := NB.new w #[x0, x1, x2, x3, y0, y1, y2, y3] 24
  have hl := below_alloc w (.cells #[x0, x1, x2, x3, y0, y1, y2, y3] 24)
  have hz := alloc_size w (.cells #[x0, x1, x2, x3, y0, y1, y2, y3] 24)
  exact ExIn.mk (ks := [a, b]) ⟨hop, ⟨by decide, by decide⟩, by decide⟩ (Nat.le_refl _) (by simp) (fun _ => ⟨w.heap.size, 0, rfl, trivial, by omega,
    RowIn.one nb (k 0) (k 1) (k 2) (k 3) (ha.later hl) (RowIn.one nb (k 4) (k 5) (k 6) (k 7) (hb.later hl) .none)⟩)
theorem lz_tru (b : Bool) (z : Int) (h : z = if b then 1 else 0) (w : World) : Calls Tryz.prog 23 #[.bool b] w fun e w' => e = .returned (V3 2 z ⟨#[]⟩) ∧ Below w.heap.size w w' := by
  subst h
  exact ltruth_any b w
/-- An expression's box: its block, and what it holds. -/
structure XAt (w : World) (g : Nat) (e : Ex) (v : Value) : Prop where
  box : ∃ x0 x1 x2 x3, v = .agg #[x0, x1, x2, x3] ∧ Four w g x0 x1 x2 x3
  ex : ExIn w (fun _ => True) e v
/-- The four expressions that are built. -/
theorem lazy_mem {e f : Ex} {ao bo : Option Addr} {cap cbp : Nat} (w : World) (he : ExIn w (fun _ => True) e (.agg #[.int .i64 e.op, .int .i64 e.num, .string ⟨e.str.toArray⟩, .slice ao e.kids.length cap])) (hf : ExIn w (fun _ => True) f (.agg #[.int .i64 f.op, .int .i64 f.num, .string ⟨f.str.toArray⟩, .slice bo f.kids.length cbp])) (u : World) (hu : ((((((((((w.alloc (.cells #[.int .i64 3, .int .i64 1, .string ⟨#[]⟩, .slice none 0 0] 24)).alloc (.cells #[.int .i64 3, .int .i64 0, .string ⟨#[]⟩, .slice none 0 0] 24)).alloc (.cells #[.int .i64 3, .int .i64 1, .string ⟨#[]⟩, .slice none 0 0, .int .i64 e.op, .int .i64 e.num, .string ⟨e.str.toArray⟩, .slice ao e.kids.length cap, .int .i64 f.op, .int .i64 f.num, .string ⟨f.str.toArray⟩, .slice bo f.kids.length cbp] 24)).alloc (.cells #[.int .i64 18, .int .i64 0, .string ⟨#[]⟩, .slice (some ⟨w.heap.size + 1 + 1, 0, none⟩) 3 3] 24)).alloc (.cells #[.int .i64 3, .int .i64 0, .string ⟨#[]⟩, .slice none 0 0, .int .i64 f.op, .int .i64 f.num, .string ⟨f.str.toArray⟩, .slice bo f.kids.length cbp, .int .i64 e.op, .int .i64 e.num, .string ⟨e.str.toArray⟩, .slice ao e.kids.length cap] 24)).alloc (.cells #[.int .i64 18, .int .i64 0, .string ⟨#[]⟩, .slice (some ⟨w.heap.size + 1 + 1 + 1 + 1, 0, none⟩) 3 3] 24)).alloc (.cells #[.int .i64 3, .int .i64 1, .string ⟨#[]⟩, .slice none 0 0, .int .i64 e.op, .int .i64 e.num, .string ⟨e.str.toArray⟩, .slice ao e.kids.length cap] 24)).alloc (.cells #[.int .i64 17, .int .i64 0, .string ⟨#[]⟩, .slice (some ⟨w.heap.size + 1 + 1 + 1 + 1 + 1 + 1, 0, none⟩) 2 2] 24)).alloc (.cells #[.int .i64 3, .int .i64 0, .string ⟨#[]⟩, .slice none 0 0, .int .i64 e.op, .int .i64 e.num, .string ⟨e.str.toArray⟩, .slice ao e.kids.length cap] 24)).alloc (.cells #[.int .i64 16, .int .i64 0, .string ⟨#[]⟩, .slice (some ⟨w.heap.size + 1 + 1 + 1 + 1 + 1 + 1 + 1 + 1, 0, none⟩) 2 2] 24)) = u) :
    Below w.heap.size w u
    ∧ (ExIn u (fun _ => True) (ifE yesE e f) (EV 18 0 ⟨#[]⟩ (.slice (some ⟨w.heap.size + 1 + 1, 0, none⟩) 3 3)) ∧ Four u (w.heap.size + 1 + 1 + 1) (.int .i64 18) (.int .i64 0) (.string ⟨#[]⟩) (.slice (some ⟨w.heap.size + 1 + 1, 0, none⟩) 3 3))
    ∧ (ExIn u (fun _ => True) (ifE noE f e) (EV 18 0 ⟨#[]⟩ (.slice (some ⟨w.heap.size + 1 + 1 + 1 + 1, 0, none⟩) 3 3)) ∧ Four u (w.heap.size + 1 + 1 + 1 + 1 + 1) (.int .i64 18) (.int .i64 0) (.string ⟨#[]⟩) (.slice (some ⟨w.heap.size + 1 + 1 + 1 + 1, 0, none⟩) 3 3))
    ∧ (ExIn u (fun _ => True) (orE yesE e) (EV 17 0 ⟨#[]⟩ (.slice (some ⟨w.heap.size + 1 + 1 + 1 + 1 + 1 + 1, 0, none⟩) 2 2)) ∧ Four u (w.heap.size + 1 + 1 + 1 + 1 + 1 + 1 + 1) (.int .i64 17) (.int .i64 0) (.string ⟨#[]⟩) (.slice (some ⟨w.heap.size + 1 + 1 + 1 + 1 + 1 + 1, 0, none⟩) 2 2))
    ∧ (ExIn u (fun _ => True) (andE noE e) (EV 16 0 ⟨#[]⟩ (.slice (some ⟨w.heap.size + 1 + 1 + 1 + 1 + 1 + 1 + 1 + 1, 0, none⟩) 2 2)) ∧ Four u (w.heap.size + 1 + 1 + 1 + 1 + 1 + 1 + 1 + 1 + 1) (.int .i64 16) (.int .i64 0) (.string ⟨#[]⟩) (.slice (some ⟨w.heap.size + 1 + 1 + 1 + 1 + 1 + 1 + 1 + 1, 0, none⟩) 2 2)) := by
  have B0 := Below.refl w.heap.size w
  have d := below_alloc w (.cells #[.int .i64 3, .int .i64 1, .string ⟨#[]⟩, .slice none 0 0] 24)
  have z0 : (w.alloc (.cells #[.int .i64 3, .int .i64 1, .string ⟨#[]⟩, .slice none 0 0] 24)).heap.size = w.heap.size + 1 := by rw [alloc_size]
  replace B0 := below_to B0 d
  clear d
  obtain ⟨u0, hu0⟩ : ∃ x, w.alloc (.cells #[.int .i64 3, .int .i64 1, .string ⟨#[]⟩, .slice none 0 0] 24) = x := ⟨_, rfl⟩
  rw [hu0] at B0 z0 hu
  have d := below_alloc u0 (.cells #[.int .i64 3, .int .i64 0, .string ⟨#[]⟩, .slice none 0 0] 24)
  have z1 : (u0.alloc (.cells #[.int .i64 3, .int .i64 0, .string ⟨#[]⟩, .slice none 0 0] 24)).heap.size = w.heap.size + 1 + 1 := by rw [alloc_size, z0]
  replace B0 := below_to B0 d
  clear d
  obtain ⟨u1, hu1⟩ : ∃ x, u0.alloc (.cells #[.int .i64 3, .int .i64 0, .string ⟨#[]⟩, .slice none 0 0] 24) = x := ⟨_, rfl⟩
  rw [hu1] at B0 z1 hu
  have d := below_alloc u1 (.cells #[.int .i64 3, .int .i64 1, .string ⟨#[]⟩, .slice none 0 0, .int .i64 e.op, .int .i64 e.num, .string ⟨e.str.toArray⟩, .slice ao e.kids.length cap, .int .i64 f.op, .int .i64 f.num, .string ⟨f.str.toArray⟩, .slice bo f.kids.length cbp] 24)
  have z2 : (u1.alloc (.cells #[.int .i64 3, .int .i64 1, .string ⟨#[]⟩, .slice none 0 0, .int .i64 e.op, .int .i64 e.num, .string ⟨e.str.toArray⟩, .slice ao e.kids.length cap, .int .i64 f.op, .int .i64 f.num, .string ⟨f.str.toArray⟩, .slice bo f.kids.length cbp] 24)).heap.size = w.heap.size + 1 + 1 + 1 := by rw [alloc_size, z1]
  have r2 := lz_three 18 ⟨by decide, by decide⟩ (yes_leaf (.inr rfl)) (he.later B0) (hf.later B0)
  rw [z1] at r2
  replace B0 := below_to B0 d
  clear d
  obtain ⟨u2, hu2⟩ : ∃ x, u1.alloc (.cells #[.int .i64 3, .int .i64 1, .string ⟨#[]⟩, .slice none 0 0, .int .i64 e.op, .int .i64 e.num, .string ⟨e.str.toArray⟩, .slice ao e.kids.length cap, .int .i64 f.op, .int .i64 f.num, .string ⟨f.str.toArray⟩, .slice bo f.kids.length cbp] 24) = x := ⟨_, rfl⟩
  rw [hu2] at B0 z2 hu r2
  have d := below_alloc u2 (.cells #[.int .i64 18, .int .i64 0, .string ⟨#[]⟩, .slice (some ⟨w.heap.size + 1 + 1, 0, none⟩) 3 3] 24)
  have z3 : (u2.alloc (.cells #[.int .i64 18, .int .i64 0, .string ⟨#[]⟩, .slice (some ⟨w.heap.size + 1 + 1, 0, none⟩) 3 3] 24)).heap.size = w.heap.size + 1 + 1 + 1 + 1 := by rw [alloc_size, z2]
  have b3 := four_new u2 (.int .i64 18) (.int .i64 0) (.string ⟨#[]⟩) (.slice (some ⟨w.heap.size + 1 + 1, 0, none⟩) 3 3) 24
  rw [z2] at b3
  replace r2 := r2.later d
  replace B0 := below_to B0 d
  clear d
  obtain ⟨u3, hu3⟩ : ∃ x, u2.alloc (.cells #[.int .i64 18, .int .i64 0, .string ⟨#[]⟩, .slice (some ⟨w.heap.size + 1 + 1, 0, none⟩) 3 3] 24) = x := ⟨_, rfl⟩
  rw [hu3] at B0 z3 hu r2 b3
  have d := below_alloc u3 (.cells #[.int .i64 3, .int .i64 0, .string ⟨#[]⟩, .slice none 0 0, .int .i64 f.op, .int .i64 f.num, .string ⟨f.str.toArray⟩, .slice bo f.kids.length cbp, .int .i64 e.op, .int .i64 e.num, .string ⟨e.str.toArray⟩, .slice ao e.kids.length cap] 24)
  have z4 : (u3.alloc (.cells #[.int .i64 3, .int .i64 0, .string ⟨#[]⟩, .slice none 0 0, .int .i64 f.op, .int .i64 f.num, .string ⟨f.str.toArray⟩, .slice bo f.kids.length cbp, .int .i64 e.op, .int .i64 e.num, .string ⟨e.str.toArray⟩, .slice ao e.kids.length cap] 24)).heap.size = w.heap.size + 1 + 1 + 1 + 1 + 1 := by rw [alloc_size, z3]
  have r4 := lz_three 18 ⟨by decide, by decide⟩ (yes_leaf (.inl rfl)) (hf.later B0) (he.later B0)
  rw [z3] at r4
  replace r2 := r2.later d
  replace b3 := b3.later d
  replace B0 := below_to B0 d
  clear d
  obtain ⟨u4, hu4⟩ : ∃ x, u3.alloc (.cells #[.int .i64 3, .int .i64 0, .string ⟨#[]⟩, .slice none 0 0, .int .i64 f.op, .int .i64 f.num, .string ⟨f.str.toArray⟩, .slice bo f.kids.length cbp, .int .i64 e.op, .int .i64 e.num, .string ⟨e.str.toArray⟩, .slice ao e.kids.length cap] 24) = x := ⟨_, rfl⟩
  rw [hu4] at B0 z4 hu r2 b3 r4
  have d := below_alloc u4 (.cells #[.int .i64 18, .int .i64 0, .string ⟨#[]⟩, .slice (some ⟨w.heap.size + 1 + 1 + 1 + 1, 0, none⟩) 3 3] 24)
  have z5 : (u4.alloc (.cells #[.int .i64 18, .int .i64 0, .string ⟨#[]⟩, .slice (some ⟨w.heap.size + 1 + 1 + 1 + 1, 0, none⟩) 3 3] 24)).heap.size = w.heap.size + 1 + 1 + 1 + 1 + 1 + 1 := by rw [alloc_size, z4]
  have b5 := four_new u4 (.int .i64 18) (.int .i64 0) (.string ⟨#[]⟩) (.slice (some ⟨w.heap.size + 1 + 1 + 1 + 1, 0, none⟩) 3 3) 24
  rw [z4] at b5
  replace r2 := r2.later d
  replace b3 := b3.later d
  replace r4 := r4.later d
  replace B0 := below_to B0 d
  clear d
  obtain ⟨u5, hu5⟩ : ∃ x, u4.alloc (.cells #[.int .i64 18, .int .i64 0, .string ⟨#[]⟩, .slice (some ⟨w.heap.size + 1 + 1 + 1 + 1, 0, none⟩) 3 3] 24) = x := ⟨_, rfl⟩
  rw [hu5] at B0 z5 hu r2 b3 r4 b5
  have d := below_alloc u5 (.cells #[.int .i64 3, .int .i64 1, .string ⟨#[]⟩, .slice none 0 0, .int .i64 e.op, .int .i64 e.num, .string ⟨e.str.toArray⟩, .slice ao e.kids.length cap] 24)
  have z6 : (u5.alloc (.cells #[.int .i64 3, .int .i64 1, .string ⟨#[]⟩, .slice none 0 0, .int .i64 e.op, .int .i64 e.num, .string ⟨e.str.toArray⟩, .slice ao e.kids.length cap] 24)).heap.size = w.heap.size + 1 + 1 + 1 + 1 + 1 + 1 + 1 := by rw [alloc_size, z5]
  have r6 := lz_two 17 ⟨by decide, by decide⟩ (yes_leaf (.inr rfl)) (he.later B0)
  rw [z5] at r6
  replace r2 := r2.later d
  replace b3 := b3.later d
  replace r4 := r4.later d
  replace b5 := b5.later d
  replace B0 := below_to B0 d
  clear d
  obtain ⟨u6, hu6⟩ : ∃ x, u5.alloc (.cells #[.int .i64 3, .int .i64 1, .string ⟨#[]⟩, .slice none 0 0, .int .i64 e.op, .int .i64 e.num, .string ⟨e.str.toArray⟩, .slice ao e.kids.length cap] 24) = x := ⟨_, rfl⟩
  rw [hu6] at B0 z6 hu r2 b3 r4 b5 r6
  have d := below_alloc u6 (.cells #[.int .i64 17, .int .i64 0, .string ⟨#[]⟩, .slice (some ⟨w.heap.size + 1 + 1 + 1 + 1 + 1 + 1, 0, none⟩) 2 2] 24)
  have z7 : (u6.alloc (.cells #[.int .i64 17, .int .i64 0, .string ⟨#[]⟩, .slice (some ⟨w.heap.size + 1 + 1 + 1 + 1 + 1 + 1, 0, none⟩) 2 2] 24)).heap.size = w.heap.size + 1 + 1 + 1 + 1 + 1 + 1 + 1 + 1 := by rw [alloc_size, z6]
  have b7 := four_new u6 (.int .i64 17) (.int .i64 0) (.string ⟨#[]⟩) (.slice (some ⟨w.heap.size + 1 + 1 + 1 + 1 + 1 + 1, 0, none⟩) 2 2) 24
  rw [z6] at b7
  replace r2 := r2.later d
  replace b3 := b3.later d
  replace r4 := r4.later d
  replace b5 := b5.later d
  replace r6 := r6.later d
  replace B0 := below_to B0 d
  clear d
  obtain ⟨u7, hu7⟩ : ∃ x, u6.alloc (.cells #[.int .i64 17, .int .i64 0, .string ⟨#[]⟩, .slice (some ⟨w.heap.size + 1 + 1 + 1 + 1 + 1 + 1, 0, none⟩) 2 2] 24) = x := ⟨_, rfl⟩
  rw [hu7] at B0 z7 hu r2 b3 r4 b5 r6 b7
  have d := below_alloc u7 (.cells #[.int .i64 3, .int .i64 0, .string ⟨#[]⟩, .slice none 0 0, .int .i64 e.op, .int .i64 e.num, .string ⟨e.str.toArray⟩, .slice ao e.kids.length cap] 24)
  have z8 : (u7.alloc (.cells #[.int .i64 3, .int .i64 0, .string ⟨#[]⟩, .slice none 0 0, .int .i64 e.op, .int .i64 e.num, .string ⟨e.str.toArray⟩, .slice ao e.kids.length cap] 24)).heap.size = w.heap.size + 1 + 1 + 1 + 1 + 1 + 1 + 1 + 1 + 1 := by rw [alloc_size, z7]
  have r8 := lz_two 16 ⟨by decide, by decide⟩ (yes_leaf (.inl rfl)) (he.later B0)
  rw [z7] at r8
  replace r2 := r2.later d
  replace b3 := b3.later d
  replace r4 := r4.later d
  replace b5 := b5.later d
  replace r6 := r6.later d
  replace b7 := b7.later d
  replace B0 := below_to B0 d
  clear d
  obtain ⟨u8, hu8⟩ : ∃ x, u7.alloc (.cells #[.int .i64 3, .int .i64 0, .string ⟨#[]⟩, .slice none 0 0, .int .i64 e.op, .int .i64 e.num, .string ⟨e.str.toArray⟩, .slice ao e.kids.length cap] 24) = x := ⟨_, rfl⟩
  rw [hu8] at B0 z8 hu r2 b3 r4 b5 r6 b7 r8
  have d := below_alloc u8 (.cells #[.int .i64 16, .int .i64 0, .string ⟨#[]⟩, .slice (some ⟨w.heap.size + 1 + 1 + 1 + 1 + 1 + 1 + 1 + 1, 0, none⟩) 2 2] 24)
  have z9 : (u8.alloc (.cells #[.int .i64 16, .int .i64 0, .string ⟨#[]⟩, .slice (some ⟨w.heap.size + 1 + 1 + 1 + 1 + 1 + 1 + 1 + 1, 0, none⟩) 2 2] 24)).heap.size = w.heap.size + 1 + 1 + 1 + 1 + 1 + 1 + 1 + 1 + 1 + 1 := by rw [alloc_size, z8]
  have b9 := four_new u8 (.int .i64 16) (.int .i64 0) (.string ⟨#[]⟩) (.slice (some ⟨w.heap.size + 1 + 1 + 1 + 1 + 1 + 1 + 1 + 1, 0, none⟩) 2 2) 24
  rw [z8] at b9
  replace r2 := r2.later d
  replace b3 := b3.later d
  replace r4 := r4.later d
  replace b5 := b5.later d
  replace r6 := r6.later d
  replace b7 := b7.later d
  replace r8 := r8.later d
  replace B0 := below_to B0 d
  clear d
  obtain ⟨u9, hu9⟩ : ∃ x, u8.alloc (.cells #[.int .i64 16, .int .i64 0, .string ⟨#[]⟩, .slice (some ⟨w.heap.size + 1 + 1 + 1 + 1 + 1 + 1 + 1 + 1, 0, none⟩) 2 2] 24) = x := ⟨_, rfl⟩
  rw [hu9] at B0 z9 hu r2 b3 r4 b5 r6 b7 r8 b9
  subst hu
  exact ⟨B0, ⟨r2, b3⟩, ⟨r4, b5⟩, ⟨r6, b7⟩, ⟨r8, b9⟩⟩
set_option maxHeartbeats 16000000 in
set_option maxRecDepth 1000000 in
theorem evallazy_walk (v0 : Value) (e : Ex) (v1 : Value) (f : Ex) (A : Option Addr) (L : List ByteArray) (cA : Nat) (B : Option Addr) (V : List Va) (cB : Nat) (w : World) (he : ExIn w (fun _ => True) e v0) (hf : ExIn w (fun _ => True) f v1)
    (_lA : L.length ≤ cA) (mA : L.length ≤ 140737488351232) (hN : Ts w A L) (_qA : A = none → cA = 0) (_lB : V.length ≤ cB) (mB : V.length ≤ 4398046511104) (hV : Vs w B V) (hx : ∀ x ∈ V, In64 x.k ∧ In64 x.n ∧ x.s.length ≤ reachBytes) (_qB : B = none → cB = 0) (hE0 : EnvP w) :
    Calls Tryz.prog 5 #[v0, v1, .slice A L.length cA, .slice B V.length cB] w fun en w' => en = .returned (.bool true) ∧ Below w.heap.size w w' := by
  have HE := Lib.hid hE0
  have hK : Knows w L V A B := ⟨hN, hV, hE0.env.tabs, by omega, by omega, fun v hv => by have := (hx v hv).2.2; unfold reachBytes at this; omega, fun v hv => (hx v hv).2.1⟩
  obtain ⟨ao, cap, rfl, -⟩ := he.get
  obtain ⟨bo, cbp, rfl, -⟩ := hf.get
  have d1 := below_alloc w (.cells #[.int .i64 e.op, .int .i64 e.num, .string ⟨e.str.toArray⟩, .slice ao e.kids.length cap] 24)
  have x1 := four_new w (.int .i64 e.op) (.int .i64 e.num) (.string ⟨e.str.toArray⟩) (.slice ao e.kids.length cap) 24
  have z1 := alloc_size w (.cells #[.int .i64 e.op, .int .i64 e.num, .string ⟨e.str.toArray⟩, .slice ao e.kids.length cap] 24)
  have d2 := below_alloc (w.alloc (.cells #[.int .i64 e.op, .int .i64 e.num, .string ⟨e.str.toArray⟩, .slice ao e.kids.length cap] 24)) (.cells #[.int .i64 f.op, .int .i64 f.num, .string ⟨f.str.toArray⟩, .slice bo f.kids.length cbp] 24)
  have x2 := four_new (w.alloc (.cells #[.int .i64 e.op, .int .i64 e.num, .string ⟨e.str.toArray⟩, .slice ao e.kids.length cap] 24)) (.int .i64 f.op) (.int .i64 f.num) (.string ⟨f.str.toArray⟩) (.slice bo f.kids.length cbp) 24
  replace x1 := x1.later d2
  rw [z1] at x2
  replace d2 := below_to d1 d2
  have h0 := he.later d2
  have h1 := hf.later d2
  have hk := hK.later d2
  have hE2 := hE0.later d2
  obtain ⟨w0, hw0⟩ : ∃ x, (w.alloc (.cells #[.int .i64 e.op, .int .i64 e.num, .string ⟨e.str.toArray⟩, .slice ao e.kids.length cap] 24)).alloc (.cells #[.int .i64 f.op, .int .i64 f.num, .string ⟨f.str.toArray⟩, .slice bo f.kids.length cbp] 24) = x := ⟨_, rfl⟩
  rw [hw0] at x1 x2 d2 h0 h1 hk hE2
  have HX0 := Lib.hid x1
  have HX1 := Lib.hid x2
  have HV0 := Lib.hid h0
  have HV1 := Lib.hid h1
  have HK := Lib.hid hk
  have HEE := Lib.hid hE2
  have HB0 := Lib.hid d2
  have HG0 := Lib.hid x1.lt
  have HG1 := Lib.hid x2.lt
  obtain ⟨-, y0, y1, y2, y3, -⟩ := x1
  clear d1 z1 d2 x2 h0 h1 hk hE2 hE0 he hf hN hV hK mA mB hx _lA _qA _lB _qB
  go_enter Tryz.func5, Tryz.ntmps5
  go_wp2_with fail
  (with_reducible refine (tinyE_any e _ _ w0 HV0.out).mono ?_)
  rintro en w1 ⟨b, rfl, d, -⟩
  have B1 := Lib.hid d
  clear d y0 y1 y2 y3 hw0
  cases b with
  | false =>
    go_wp2_with fail
    have caw := evawake_any w1 (HEE.out.later (B1.out))
    (with_reducible refine caw.mono ?_)
    rintro en wz ⟨rfl, bz⟩
    have HBF := Lib.hid (below_to (below_to HB0.out (B1.out)) bz)
    clear bz caw
    go_wp2_with fail
    go_ret
    exact ⟨rfl, HBF.out⟩
  | true =>
    obtain ⟨-, y0, y1, y2, y3, -⟩ := HX1.out.later B1.out
    go_wp2_with fail
    (with_reducible refine (tinyE_any f _ _ w1 (HV1.out.later B1.out)).mono ?_)
    rintro en w2 ⟨b, rfl, d, -⟩
    have B2 := Lib.hid (below_to B1.out d)
    clear d y0 y1 y2 y3
    cases b with
    | false =>
      go_wp2_with fail
      have caw := evawake_any w2 (HEE.out.later (B2.out))
      (with_reducible refine caw.mono ?_)
      rintro en wz ⟨rfl, bz⟩
      have HBF := Lib.hid (below_to (below_to HB0.out (B2.out)) bz)
      clear bz caw
      go_wp2_with fail
      go_ret
      exact ⟨rfl, HBF.out⟩
    | true =>
      have cc := rcheck_any e _ _ w2 (HEE.out.later B2.out) (HV0.out.later B2.out)
      cases hce : chkB e with
      | false =>
        rw [hce] at cc
        clear hce
        obtain ⟨-, y0, y1, y2, y3, -⟩ := HX0.out.later B2.out
        go_wp2_with fail
        (with_reducible refine (cc).mono ?_)
        rintro en w3 ⟨rfl, d⟩
        have B3 := Lib.hid (below_to B2.out d)
        clear d y0 y1 y2 y3
        clear cc
        go_wp2_with fail
        have caw := evawake_any w3 (HEE.out.later (B3.out))
        (with_reducible refine caw.mono ?_)
        rintro en wz ⟨rfl, bz⟩
        have HBF := Lib.hid (below_to (below_to HB0.out (B3.out)) bz)
        clear bz caw
        go_wp2_with fail
        go_ret
        exact ⟨rfl, HBF.out⟩
      | true =>
        rw [hce] at cc
        obtain ⟨-, y0, y1, y2, y3, -⟩ := HX0.out.later B2.out
        go_wp2_with fail
        (with_reducible refine (cc).mono ?_)
        rintro en w3 ⟨rfl, d⟩
        have B3 := Lib.hid (below_to B2.out d)
        clear d y0 y1 y2 y3
        have HCE := Lib.hid hce
        clear cc hce
        have cc := rcheck_any f _ _ w3 (HEE.out.later B3.out) (HV1.out.later B3.out)
        cases hcf : chkB f with
        | false =>
          rw [hcf] at cc
          clear hcf
          obtain ⟨-, y0, y1, y2, y3, -⟩ := HX1.out.later B3.out
          go_wp2_with fail
          (with_reducible refine (cc).mono ?_)
          rintro en w4 ⟨rfl, d⟩
          have B4 := Lib.hid (below_to B3.out d)
          clear d y0 y1 y2 y3
          clear cc
          go_wp2_with fail
          have caw := evawake_any w4 (HEE.out.later (B4.out))
          (with_reducible refine caw.mono ?_)
          rintro en wz ⟨rfl, bz⟩
          have HBF := Lib.hid (below_to (below_to HB0.out (B4.out)) bz)
          clear bz caw
          go_wp2_with fail
          go_ret
          exact ⟨rfl, HBF.out⟩
        | true =>
          rw [hcf] at cc
          obtain ⟨-, y0, y1, y2, y3, -⟩ := HX1.out.later B3.out
          go_wp2_with fail
          (with_reducible refine (cc).mono ?_)
          rintro en w4 ⟨rfl, d⟩
          have B4 := Lib.hid (below_to B3.out d)
          clear d y0 y1 y2 y3
          clear cc hcf
          have cc := few9_any L V A B cA cB w4 (HK.out.later B4.out).vals
          go_wp2_with fail
          (with_reducible refine cc.mono ?_)
          rintro en w5 ⟨⟨b, rfl, -⟩, rfl⟩
          clear cc
          cases b with
          | false =>
            go_wp2_with fail
            have caw := evawake_any w4 (HEE.out.later (B4.out))
            (with_reducible refine caw.mono ?_)
            rintro en wz ⟨rfl, bz⟩
            have HBF := Lib.hid (below_to (below_to HB0.out (B4.out)) bz)
            clear bz caw
            go_wp2_with fail
            go_ret
            exact ⟨rfl, HBF.out⟩
          | true =>
            have hm := lazy_mem w4 (HV0.out.later B4.out) (HV1.out.later B4.out)
            obtain ⟨-, y0, y1, y2, y3, -⟩ := HX0.out.later B4.out
            obtain ⟨-, z0, z1, z2, z3, -⟩ := HX1.out.later B4.out
            have gl0 : w.heap.size < w4.heap.size := Nat.lt_of_lt_of_le HG0.out B4.out.size
            have gl1 : w.heap.size + 1 < w4.heap.size := Nat.lt_of_lt_of_le HG1.out B4.out.size
            have D0 : Below w4.heap.size w4 w4 := Below.refl _ _
            have D1 := below_to D0 (below_alloc w4 (.cells #[.int .i64 3, .int .i64 1, .string ⟨#[]⟩, .slice none 0 0] 24))
            have D2 := below_to D1 (below_alloc (w4.alloc (.cells #[.int .i64 3, .int .i64 1, .string ⟨#[]⟩, .slice none 0 0] 24)) (.cells #[.int .i64 3, .int .i64 0, .string ⟨#[]⟩, .slice none 0 0] 24))
            have D3 := below_to D2 (below_alloc ((w4.alloc (.cells #[.int .i64 3, .int .i64 1, .string ⟨#[]⟩, .slice none 0 0] 24)).alloc (.cells #[.int .i64 3, .int .i64 0, .string ⟨#[]⟩, .slice none 0 0] 24)) (.cells #[.int .i64 3, .int .i64 1, .string ⟨#[]⟩, .slice none 0 0, .int .i64 e.op, .int .i64 e.num, .string ⟨e.str.toArray⟩, .slice ao e.kids.length cap, .int .i64 f.op, .int .i64 f.num, .string ⟨f.str.toArray⟩, .slice bo f.kids.length cbp] 24))
            have D4 := below_to D3 (below_alloc (((w4.alloc (.cells #[.int .i64 3, .int .i64 1, .string ⟨#[]⟩, .slice none 0 0] 24)).alloc (.cells #[.int .i64 3, .int .i64 0, .string ⟨#[]⟩, .slice none 0 0] 24)).alloc (.cells #[.int .i64 3, .int .i64 1, .string ⟨#[]⟩, .slice none 0 0, .int .i64 e.op, .int .i64 e.num, .string ⟨e.str.toArray⟩, .slice ao e.kids.length cap, .int .i64 f.op, .int .i64 f.num, .string ⟨f.str.toArray⟩, .slice bo f.kids.length cbp] 24)) (.cells #[.int .i64 18, .int .i64 0, .string ⟨#[]⟩, .slice (some ⟨w4.heap.size + 1 + 1, 0, none⟩) 3 3] 24))
            have D5 := below_to D4 (below_alloc ((((w4.alloc (.cells #[.int .i64 3, .int .i64 1, .string ⟨#[]⟩, .slice none 0 0] 24)).alloc (.cells #[.int .i64 3, .int .i64 0, .string ⟨#[]⟩, .slice none 0 0] 24)).alloc (.cells #[.int .i64 3, .int .i64 1, .string ⟨#[]⟩, .slice none 0 0, .int .i64 e.op, .int .i64 e.num, .string ⟨e.str.toArray⟩, .slice ao e.kids.length cap, .int .i64 f.op, .int .i64 f.num, .string ⟨f.str.toArray⟩, .slice bo f.kids.length cbp] 24)).alloc (.cells #[.int .i64 18, .int .i64 0, .string ⟨#[]⟩, .slice (some ⟨w4.heap.size + 1 + 1, 0, none⟩) 3 3] 24)) (.cells #[.int .i64 3, .int .i64 0, .string ⟨#[]⟩, .slice none 0 0, .int .i64 f.op, .int .i64 f.num, .string ⟨f.str.toArray⟩, .slice bo f.kids.length cbp, .int .i64 e.op, .int .i64 e.num, .string ⟨e.str.toArray⟩, .slice ao e.kids.length cap] 24))
            have D6 := below_to D5 (below_alloc (((((w4.alloc (.cells #[.int .i64 3, .int .i64 1, .string ⟨#[]⟩, .slice none 0 0] 24)).alloc (.cells #[.int .i64 3, .int .i64 0, .string ⟨#[]⟩, .slice none 0 0] 24)).alloc (.cells #[.int .i64 3, .int .i64 1, .string ⟨#[]⟩, .slice none 0 0, .int .i64 e.op, .int .i64 e.num, .string ⟨e.str.toArray⟩, .slice ao e.kids.length cap, .int .i64 f.op, .int .i64 f.num, .string ⟨f.str.toArray⟩, .slice bo f.kids.length cbp] 24)).alloc (.cells #[.int .i64 18, .int .i64 0, .string ⟨#[]⟩, .slice (some ⟨w4.heap.size + 1 + 1, 0, none⟩) 3 3] 24)).alloc (.cells #[.int .i64 3, .int .i64 0, .string ⟨#[]⟩, .slice none 0 0, .int .i64 f.op, .int .i64 f.num, .string ⟨f.str.toArray⟩, .slice bo f.kids.length cbp, .int .i64 e.op, .int .i64 e.num, .string ⟨e.str.toArray⟩, .slice ao e.kids.length cap] 24)) (.cells #[.int .i64 18, .int .i64 0, .string ⟨#[]⟩, .slice (some ⟨w4.heap.size + 1 + 1 + 1 + 1, 0, none⟩) 3 3] 24))
            have D7 := below_to D6 (below_alloc ((((((w4.alloc (.cells #[.int .i64 3, .int .i64 1, .string ⟨#[]⟩, .slice none 0 0] 24)).alloc (.cells #[.int .i64 3, .int .i64 0, .string ⟨#[]⟩, .slice none 0 0] 24)).alloc (.cells #[.int .i64 3, .int .i64 1, .string ⟨#[]⟩, .slice none 0 0, .int .i64 e.op, .int .i64 e.num, .string ⟨e.str.toArray⟩, .slice ao e.kids.length cap, .int .i64 f.op, .int .i64 f.num, .string ⟨f.str.toArray⟩, .slice bo f.kids.length cbp] 24)).alloc (.cells #[.int .i64 18, .int .i64 0, .string ⟨#[]⟩, .slice (some ⟨w4.heap.size + 1 + 1, 0, none⟩) 3 3] 24)).alloc (.cells #[.int .i64 3, .int .i64 0, .string ⟨#[]⟩, .slice none 0 0, .int .i64 f.op, .int .i64 f.num, .string ⟨f.str.toArray⟩, .slice bo f.kids.length cbp, .int .i64 e.op, .int .i64 e.num, .string ⟨e.str.toArray⟩, .slice ao e.kids.length cap] 24)).alloc (.cells #[.int .i64 18, .int .i64 0, .string ⟨#[]⟩, .slice (some ⟨w4.heap.size + 1 + 1 + 1 + 1, 0, none⟩) 3 3] 24)) (.cells #[.int .i64 3, .int .i64 1, .string ⟨#[]⟩, .slice none 0 0, .int .i64 e.op, .int .i64 e.num, .string ⟨e.str.toArray⟩, .slice ao e.kids.length cap] 24))
            have D8 := below_to D7 (below_alloc (((((((w4.alloc (.cells #[.int .i64 3, .int .i64 1, .string ⟨#[]⟩, .slice none 0 0] 24)).alloc (.cells #[.int .i64 3, .int .i64 0, .string ⟨#[]⟩, .slice none 0 0] 24)).alloc (.cells #[.int .i64 3, .int .i64 1, .string ⟨#[]⟩, .slice none 0 0, .int .i64 e.op, .int .i64 e.num, .string ⟨e.str.toArray⟩, .slice ao e.kids.length cap, .int .i64 f.op, .int .i64 f.num, .string ⟨f.str.toArray⟩, .slice bo f.kids.length cbp] 24)).alloc (.cells #[.int .i64 18, .int .i64 0, .string ⟨#[]⟩, .slice (some ⟨w4.heap.size + 1 + 1, 0, none⟩) 3 3] 24)).alloc (.cells #[.int .i64 3, .int .i64 0, .string ⟨#[]⟩, .slice none 0 0, .int .i64 f.op, .int .i64 f.num, .string ⟨f.str.toArray⟩, .slice bo f.kids.length cbp, .int .i64 e.op, .int .i64 e.num, .string ⟨e.str.toArray⟩, .slice ao e.kids.length cap] 24)).alloc (.cells #[.int .i64 18, .int .i64 0, .string ⟨#[]⟩, .slice (some ⟨w4.heap.size + 1 + 1 + 1 + 1, 0, none⟩) 3 3] 24)).alloc (.cells #[.int .i64 3, .int .i64 1, .string ⟨#[]⟩, .slice none 0 0, .int .i64 e.op, .int .i64 e.num, .string ⟨e.str.toArray⟩, .slice ao e.kids.length cap] 24)) (.cells #[.int .i64 17, .int .i64 0, .string ⟨#[]⟩, .slice (some ⟨w4.heap.size + 1 + 1 + 1 + 1 + 1 + 1, 0, none⟩) 2 2] 24))
            have q1 := four_new w4 (.int .i64 3) (.int .i64 1) (.string ⟨#[]⟩) (.slice none 0 0) 24
            replace q1 := q1.later (below_alloc (w4.alloc (.cells #[.int .i64 3, .int .i64 1, .string ⟨#[]⟩, .slice none 0 0] 24)) (.cells #[.int .i64 3, .int .i64 0, .string ⟨#[]⟩, .slice none 0 0] 24))
            replace q1 := q1.later (below_alloc ((w4.alloc (.cells #[.int .i64 3, .int .i64 1, .string ⟨#[]⟩, .slice none 0 0] 24)).alloc (.cells #[.int .i64 3, .int .i64 0, .string ⟨#[]⟩, .slice none 0 0] 24)) (.cells #[.int .i64 3, .int .i64 1, .string ⟨#[]⟩, .slice none 0 0, .int .i64 e.op, .int .i64 e.num, .string ⟨e.str.toArray⟩, .slice ao e.kids.length cap, .int .i64 f.op, .int .i64 f.num, .string ⟨f.str.toArray⟩, .slice bo f.kids.length cbp] 24))
            replace q1 := q1.later (below_alloc (((w4.alloc (.cells #[.int .i64 3, .int .i64 1, .string ⟨#[]⟩, .slice none 0 0] 24)).alloc (.cells #[.int .i64 3, .int .i64 0, .string ⟨#[]⟩, .slice none 0 0] 24)).alloc (.cells #[.int .i64 3, .int .i64 1, .string ⟨#[]⟩, .slice none 0 0, .int .i64 e.op, .int .i64 e.num, .string ⟨e.str.toArray⟩, .slice ao e.kids.length cap, .int .i64 f.op, .int .i64 f.num, .string ⟨f.str.toArray⟩, .slice bo f.kids.length cbp] 24)) (.cells #[.int .i64 18, .int .i64 0, .string ⟨#[]⟩, .slice (some ⟨w4.heap.size + 1 + 1, 0, none⟩) 3 3] 24))
            replace q1 := q1.later (below_alloc ((((w4.alloc (.cells #[.int .i64 3, .int .i64 1, .string ⟨#[]⟩, .slice none 0 0] 24)).alloc (.cells #[.int .i64 3, .int .i64 0, .string ⟨#[]⟩, .slice none 0 0] 24)).alloc (.cells #[.int .i64 3, .int .i64 1, .string ⟨#[]⟩, .slice none 0 0, .int .i64 e.op, .int .i64 e.num, .string ⟨e.str.toArray⟩, .slice ao e.kids.length cap, .int .i64 f.op, .int .i64 f.num, .string ⟨f.str.toArray⟩, .slice bo f.kids.length cbp] 24)).alloc (.cells #[.int .i64 18, .int .i64 0, .string ⟨#[]⟩, .slice (some ⟨w4.heap.size + 1 + 1, 0, none⟩) 3 3] 24)) (.cells #[.int .i64 3, .int .i64 0, .string ⟨#[]⟩, .slice none 0 0, .int .i64 f.op, .int .i64 f.num, .string ⟨f.str.toArray⟩, .slice bo f.kids.length cbp, .int .i64 e.op, .int .i64 e.num, .string ⟨e.str.toArray⟩, .slice ao e.kids.length cap] 24))
            replace q1 := q1.later (below_alloc (((((w4.alloc (.cells #[.int .i64 3, .int .i64 1, .string ⟨#[]⟩, .slice none 0 0] 24)).alloc (.cells #[.int .i64 3, .int .i64 0, .string ⟨#[]⟩, .slice none 0 0] 24)).alloc (.cells #[.int .i64 3, .int .i64 1, .string ⟨#[]⟩, .slice none 0 0, .int .i64 e.op, .int .i64 e.num, .string ⟨e.str.toArray⟩, .slice ao e.kids.length cap, .int .i64 f.op, .int .i64 f.num, .string ⟨f.str.toArray⟩, .slice bo f.kids.length cbp] 24)).alloc (.cells #[.int .i64 18, .int .i64 0, .string ⟨#[]⟩, .slice (some ⟨w4.heap.size + 1 + 1, 0, none⟩) 3 3] 24)).alloc (.cells #[.int .i64 3, .int .i64 0, .string ⟨#[]⟩, .slice none 0 0, .int .i64 f.op, .int .i64 f.num, .string ⟨f.str.toArray⟩, .slice bo f.kids.length cbp, .int .i64 e.op, .int .i64 e.num, .string ⟨e.str.toArray⟩, .slice ao e.kids.length cap] 24)) (.cells #[.int .i64 18, .int .i64 0, .string ⟨#[]⟩, .slice (some ⟨w4.heap.size + 1 + 1 + 1 + 1, 0, none⟩) 3 3] 24))
            have q2 := four_new (w4.alloc (.cells #[.int .i64 3, .int .i64 1, .string ⟨#[]⟩, .slice none 0 0] 24)) (.int .i64 3) (.int .i64 0) (.string ⟨#[]⟩) (.slice none 0 0) 24
            replace q2 := q2.later (below_alloc ((w4.alloc (.cells #[.int .i64 3, .int .i64 1, .string ⟨#[]⟩, .slice none 0 0] 24)).alloc (.cells #[.int .i64 3, .int .i64 0, .string ⟨#[]⟩, .slice none 0 0] 24)) (.cells #[.int .i64 3, .int .i64 1, .string ⟨#[]⟩, .slice none 0 0, .int .i64 e.op, .int .i64 e.num, .string ⟨e.str.toArray⟩, .slice ao e.kids.length cap, .int .i64 f.op, .int .i64 f.num, .string ⟨f.str.toArray⟩, .slice bo f.kids.length cbp] 24))
            replace q2 := q2.later (below_alloc (((w4.alloc (.cells #[.int .i64 3, .int .i64 1, .string ⟨#[]⟩, .slice none 0 0] 24)).alloc (.cells #[.int .i64 3, .int .i64 0, .string ⟨#[]⟩, .slice none 0 0] 24)).alloc (.cells #[.int .i64 3, .int .i64 1, .string ⟨#[]⟩, .slice none 0 0, .int .i64 e.op, .int .i64 e.num, .string ⟨e.str.toArray⟩, .slice ao e.kids.length cap, .int .i64 f.op, .int .i64 f.num, .string ⟨f.str.toArray⟩, .slice bo f.kids.length cbp] 24)) (.cells #[.int .i64 18, .int .i64 0, .string ⟨#[]⟩, .slice (some ⟨w4.heap.size + 1 + 1, 0, none⟩) 3 3] 24))
            replace q2 := q2.later (below_alloc ((((w4.alloc (.cells #[.int .i64 3, .int .i64 1, .string ⟨#[]⟩, .slice none 0 0] 24)).alloc (.cells #[.int .i64 3, .int .i64 0, .string ⟨#[]⟩, .slice none 0 0] 24)).alloc (.cells #[.int .i64 3, .int .i64 1, .string ⟨#[]⟩, .slice none 0 0, .int .i64 e.op, .int .i64 e.num, .string ⟨e.str.toArray⟩, .slice ao e.kids.length cap, .int .i64 f.op, .int .i64 f.num, .string ⟨f.str.toArray⟩, .slice bo f.kids.length cbp] 24)).alloc (.cells #[.int .i64 18, .int .i64 0, .string ⟨#[]⟩, .slice (some ⟨w4.heap.size + 1 + 1, 0, none⟩) 3 3] 24)) (.cells #[.int .i64 3, .int .i64 0, .string ⟨#[]⟩, .slice none 0 0, .int .i64 f.op, .int .i64 f.num, .string ⟨f.str.toArray⟩, .slice bo f.kids.length cbp, .int .i64 e.op, .int .i64 e.num, .string ⟨e.str.toArray⟩, .slice ao e.kids.length cap] 24))
            replace q2 := q2.later (below_alloc (((((w4.alloc (.cells #[.int .i64 3, .int .i64 1, .string ⟨#[]⟩, .slice none 0 0] 24)).alloc (.cells #[.int .i64 3, .int .i64 0, .string ⟨#[]⟩, .slice none 0 0] 24)).alloc (.cells #[.int .i64 3, .int .i64 1, .string ⟨#[]⟩, .slice none 0 0, .int .i64 e.op, .int .i64 e.num, .string ⟨e.str.toArray⟩, .slice ao e.kids.length cap, .int .i64 f.op, .int .i64 f.num, .string ⟨f.str.toArray⟩, .slice bo f.kids.length cbp] 24)).alloc (.cells #[.int .i64 18, .int .i64 0, .string ⟨#[]⟩, .slice (some ⟨w4.heap.size + 1 + 1, 0, none⟩) 3 3] 24)).alloc (.cells #[.int .i64 3, .int .i64 0, .string ⟨#[]⟩, .slice none 0 0, .int .i64 f.op, .int .i64 f.num, .string ⟨f.str.toArray⟩, .slice bo f.kids.length cbp, .int .i64 e.op, .int .i64 e.num, .string ⟨e.str.toArray⟩, .slice ao e.kids.length cap] 24)) (.cells #[.int .i64 18, .int .i64 0, .string ⟨#[]⟩, .slice (some ⟨w4.heap.size + 1 + 1 + 1 + 1, 0, none⟩) 3 3] 24))
            replace q2 := q2.later (below_alloc ((((((w4.alloc (.cells #[.int .i64 3, .int .i64 1, .string ⟨#[]⟩, .slice none 0 0] 24)).alloc (.cells #[.int .i64 3, .int .i64 0, .string ⟨#[]⟩, .slice none 0 0] 24)).alloc (.cells #[.int .i64 3, .int .i64 1, .string ⟨#[]⟩, .slice none 0 0, .int .i64 e.op, .int .i64 e.num, .string ⟨e.str.toArray⟩, .slice ao e.kids.length cap, .int .i64 f.op, .int .i64 f.num, .string ⟨f.str.toArray⟩, .slice bo f.kids.length cbp] 24)).alloc (.cells #[.int .i64 18, .int .i64 0, .string ⟨#[]⟩, .slice (some ⟨w4.heap.size + 1 + 1, 0, none⟩) 3 3] 24)).alloc (.cells #[.int .i64 3, .int .i64 0, .string ⟨#[]⟩, .slice none 0 0, .int .i64 f.op, .int .i64 f.num, .string ⟨f.str.toArray⟩, .slice bo f.kids.length cbp, .int .i64 e.op, .int .i64 e.num, .string ⟨e.str.toArray⟩, .slice ao e.kids.length cap] 24)).alloc (.cells #[.int .i64 18, .int .i64 0, .string ⟨#[]⟩, .slice (some ⟨w4.heap.size + 1 + 1 + 1 + 1, 0, none⟩) 3 3] 24)) (.cells #[.int .i64 3, .int .i64 1, .string ⟨#[]⟩, .slice none 0 0, .int .i64 e.op, .int .i64 e.num, .string ⟨e.str.toArray⟩, .slice ao e.kids.length cap] 24))
            replace q2 := q2.later (below_alloc (((((((w4.alloc (.cells #[.int .i64 3, .int .i64 1, .string ⟨#[]⟩, .slice none 0 0] 24)).alloc (.cells #[.int .i64 3, .int .i64 0, .string ⟨#[]⟩, .slice none 0 0] 24)).alloc (.cells #[.int .i64 3, .int .i64 1, .string ⟨#[]⟩, .slice none 0 0, .int .i64 e.op, .int .i64 e.num, .string ⟨e.str.toArray⟩, .slice ao e.kids.length cap, .int .i64 f.op, .int .i64 f.num, .string ⟨f.str.toArray⟩, .slice bo f.kids.length cbp] 24)).alloc (.cells #[.int .i64 18, .int .i64 0, .string ⟨#[]⟩, .slice (some ⟨w4.heap.size + 1 + 1, 0, none⟩) 3 3] 24)).alloc (.cells #[.int .i64 3, .int .i64 0, .string ⟨#[]⟩, .slice none 0 0, .int .i64 f.op, .int .i64 f.num, .string ⟨f.str.toArray⟩, .slice bo f.kids.length cbp, .int .i64 e.op, .int .i64 e.num, .string ⟨e.str.toArray⟩, .slice ao e.kids.length cap] 24)).alloc (.cells #[.int .i64 18, .int .i64 0, .string ⟨#[]⟩, .slice (some ⟨w4.heap.size + 1 + 1 + 1 + 1, 0, none⟩) 3 3] 24)).alloc (.cells #[.int .i64 3, .int .i64 1, .string ⟨#[]⟩, .slice none 0 0, .int .i64 e.op, .int .i64 e.num, .string ⟨e.str.toArray⟩, .slice ao e.kids.length cap] 24)) (.cells #[.int .i64 17, .int .i64 0, .string ⟨#[]⟩, .slice (some ⟨w4.heap.size + 1 + 1 + 1 + 1 + 1 + 1, 0, none⟩) 2 2] 24))
            rw [alloc_size] at q2
            obtain ⟨-, ya4, yb4, yc4, yd4, -⟩ := HX0.out.later (below_to B4.out D4)
            obtain ⟨-, ya6, yb6, yc6, yd6, -⟩ := HX0.out.later (below_to B4.out D6)
            obtain ⟨-, ya8, yb8, yc8, yd8, -⟩ := HX0.out.later (below_to B4.out D8)
            obtain ⟨-, za4, zb4, zc4, zd4, -⟩ := HX1.out.later (below_to B4.out D4)
            obtain ⟨-, qa1, qb1, qc1, qd1, -⟩ := q1
            obtain ⟨-, qa2, qb2, qc2, qd2, -⟩ := q2
            clear D0 D1 D2 D3 D4 D5 D6 D7 D8
            obtain ⟨gF, hgF⟩ : ∃ g, w.heap.size + 1 = g := ⟨_, rfl⟩
            rw [hgF] at z0 z1 z2 z3 gl1 za4 zb4 zc4 zd4
            rw [hgF]
            clear hgF
            go_wp2_with fail
            obtain ⟨u, hu⟩ : ∃ u, ((((((((((w4.alloc (.cells #[.int .i64 3, .int .i64 1, .string ⟨#[]⟩, .slice none 0 0] 24)).alloc (.cells #[.int .i64 3, .int .i64 0, .string ⟨#[]⟩, .slice none 0 0] 24)).alloc (.cells #[.int .i64 3, .int .i64 1, .string ⟨#[]⟩, .slice none 0 0, .int .i64 e.op, .int .i64 e.num, .string ⟨e.str.toArray⟩, .slice ao e.kids.length cap, .int .i64 f.op, .int .i64 f.num, .string ⟨f.str.toArray⟩, .slice bo f.kids.length cbp] 24)).alloc (.cells #[.int .i64 18, .int .i64 0, .string ⟨#[]⟩, .slice (some ⟨w4.heap.size + 1 + 1, 0, none⟩) 3 3] 24)).alloc (.cells #[.int .i64 3, .int .i64 0, .string ⟨#[]⟩, .slice none 0 0, .int .i64 f.op, .int .i64 f.num, .string ⟨f.str.toArray⟩, .slice bo f.kids.length cbp, .int .i64 e.op, .int .i64 e.num, .string ⟨e.str.toArray⟩, .slice ao e.kids.length cap] 24)).alloc (.cells #[.int .i64 18, .int .i64 0, .string ⟨#[]⟩, .slice (some ⟨w4.heap.size + 1 + 1 + 1 + 1, 0, none⟩) 3 3] 24)).alloc (.cells #[.int .i64 3, .int .i64 1, .string ⟨#[]⟩, .slice none 0 0, .int .i64 e.op, .int .i64 e.num, .string ⟨e.str.toArray⟩, .slice ao e.kids.length cap] 24)).alloc (.cells #[.int .i64 17, .int .i64 0, .string ⟨#[]⟩, .slice (some ⟨w4.heap.size + 1 + 1 + 1 + 1 + 1 + 1, 0, none⟩) 2 2] 24)).alloc (.cells #[.int .i64 3, .int .i64 0, .string ⟨#[]⟩, .slice none 0 0, .int .i64 e.op, .int .i64 e.num, .string ⟨e.str.toArray⟩, .slice ao e.kids.length cap] 24)).alloc (.cells #[.int .i64 16, .int .i64 0, .string ⟨#[]⟩, .slice (some ⟨w4.heap.size + 1 + 1 + 1 + 1 + 1 + 1 + 1 + 1, 0, none⟩) 2 2] 24)) = u := ⟨_, rfl⟩
            rw [hu]
            obtain ⟨hb, ⟨xa, ba⟩, ⟨xb, bb⟩, ⟨xc, bc⟩, ⟨xd, bd⟩⟩ := hm u hu
            clear hm hu gl0 gl1 y0 y1 y2 y3 z0 z1 z2 z3 za4 zb4 zc4 zd4 qa1 qb1 qc1 qd1 qa2 qb2 qc2 qd2 ya4 yb4 yc4 yd4 ya6 yb6 yc6 yd6 ya8 yb8 yc8 yd8
            have BU := Lib.hid (below_to B4.out hb)
            clear hb
            generalize w4.heap.size + 1 + 1 + 1 + 1 + 1 + 1 + 1 + 1 + 1 = gD at *
            generalize w4.heap.size + 1 + 1 + 1 + 1 + 1 + 1 + 1 + 1 = rD at *
            generalize w4.heap.size + 1 + 1 + 1 + 1 + 1 + 1 + 1 = gC at *
            generalize w4.heap.size + 1 + 1 + 1 + 1 + 1 + 1 = rC at *
            generalize w4.heap.size + 1 + 1 + 1 + 1 + 1 = gB at *
            generalize w4.heap.size + 1 + 1 + 1 + 1 = rB at *
            generalize w4.heap.size + 1 + 1 + 1 = gA at *
            generalize w4.heap.size + 1 + 1 = rA at *
            have XA := Lib.hid xa
            have BA := Lib.hid ba
            have XB := Lib.hid xb
            have BB := Lib.hid bb
            have XC := Lib.hid xc
            have BC := Lib.hid bc
            have XD := Lib.hid xd
            have BD := Lib.hid bd
            obtain ⟨-, q0, q1, q2, q3, -⟩ := ba
            clear bb bc bd xa xb xc xd
            have cc := rcheck_any (ifE yesE e f) _ _ u (HEE.out.later BU.out) XA.out
            cases hcA : chkB (ifE yesE e f) with
            | false =>
              rw [hcA] at cc
              clear hcA
              go_wp2_with fail
              (with_reducible refine cc.mono ?_)
              rintro en x1 ⟨rfl, d⟩
              have D1 := Lib.hid (d)
              have BX1 := Lib.hid (below_to BU.out d)
              clear d cc q0 q1 q2 q3
              go_wp2_with fail
              have caw := evawake_any x1 (HEE.out.later (BX1.out))
              (with_reducible refine caw.mono ?_)
              rintro en wz ⟨rfl, bz⟩
              have HBF := Lib.hid (below_to (below_to HB0.out (BX1.out)) bz)
              clear bz caw
              go_wp2_with fail
              go_ret
              exact ⟨rfl, HBF.out⟩
            | true =>
              rw [hcA] at cc
              have HCA := Lib.hid hcA
              clear hcA
              go_wp2_with fail
              (with_reducible refine cc.mono ?_)
              rintro en x1 ⟨rfl, d⟩
              have D1 := Lib.hid (d)
              have BX1 := Lib.hid (below_to BU.out d)
              clear d cc q0 q1 q2 q3
              have cc := rcheck_any (ifE noE f e) _ _ x1 (HEE.out.later BX1.out) (XB.out.later D1.out)
              obtain ⟨-, q0, q1, q2, q3, -⟩ := BB.out.later D1.out
              cases hcB : chkB (ifE noE f e) with
              | false =>
                rw [hcB] at cc
                clear hcB
                go_wp2_with fail
                (with_reducible refine cc.mono ?_)
                rintro en x2 ⟨rfl, d⟩
                have D2 := Lib.hid (below_to D1.out d)
                have BX2 := Lib.hid (below_to BX1.out d)
                clear d cc q0 q1 q2 q3
                go_wp2_with fail
                have caw := evawake_any x2 (HEE.out.later (BX2.out))
                (with_reducible refine caw.mono ?_)
                rintro en wz ⟨rfl, bz⟩
                have HBF := Lib.hid (below_to (below_to HB0.out (BX2.out)) bz)
                clear bz caw
                go_wp2_with fail
                go_ret
                exact ⟨rfl, HBF.out⟩
              | true =>
                rw [hcB] at cc
                have HCB := Lib.hid hcB
                clear hcB
                go_wp2_with fail
                (with_reducible refine cc.mono ?_)
                rintro en x2 ⟨rfl, d⟩
                have D2 := Lib.hid (below_to D1.out d)
                have BX2 := Lib.hid (below_to BX1.out d)
                clear d cc q0 q1 q2 q3
                have cc := rcheck_any (orE yesE e) _ _ x2 (HEE.out.later BX2.out) (XC.out.later D2.out)
                obtain ⟨-, q0, q1, q2, q3, -⟩ := BC.out.later D2.out
                cases hcC : chkB (orE yesE e) with
                | false =>
                  rw [hcC] at cc
                  clear hcC
                  go_wp2_with fail
                  (with_reducible refine cc.mono ?_)
                  rintro en x3 ⟨rfl, d⟩
                  have D3 := Lib.hid (below_to D2.out d)
                  have BX3 := Lib.hid (below_to BX2.out d)
                  clear d cc q0 q1 q2 q3
                  go_wp2_with fail
                  have caw := evawake_any x3 (HEE.out.later (BX3.out))
                  (with_reducible refine caw.mono ?_)
                  rintro en wz ⟨rfl, bz⟩
                  have HBF := Lib.hid (below_to (below_to HB0.out (BX3.out)) bz)
                  clear bz caw
                  go_wp2_with fail
                  go_ret
                  exact ⟨rfl, HBF.out⟩
                | true =>
                  rw [hcC] at cc
                  have HCC := Lib.hid hcC
                  clear hcC
                  go_wp2_with fail
                  (with_reducible refine cc.mono ?_)
                  rintro en x3 ⟨rfl, d⟩
                  have D3 := Lib.hid (below_to D2.out d)
                  have BX3 := Lib.hid (below_to BX2.out d)
                  clear d cc q0 q1 q2 q3
                  have cc := rcheck_any (andE noE e) _ _ x3 (HEE.out.later BX3.out) (XD.out.later D3.out)
                  obtain ⟨-, q0, q1, q2, q3, -⟩ := BD.out.later D3.out
                  cases hcD : chkB (andE noE e) with
                  | false =>
                    rw [hcD] at cc
                    clear hcD
                    go_wp2_with fail
                    (with_reducible refine cc.mono ?_)
                    rintro en x4 ⟨rfl, d⟩
                    have D4 := Lib.hid (below_to D3.out d)
                    have BX4 := Lib.hid (below_to BX3.out d)
                    clear d cc q0 q1 q2 q3
                    go_wp2_with fail
                    have caw := evawake_any x4 (HEE.out.later (BX4.out))
                    (with_reducible refine caw.mono ?_)
                    rintro en wz ⟨rfl, bz⟩
                    have HBF := Lib.hid (below_to (below_to HB0.out (BX4.out)) bz)
                    clear bz caw
                    go_wp2_with fail
                    go_ret
                    exact ⟨rfl, HBF.out⟩
                  | true =>
                    rw [hcD] at cc
                    have HCD := Lib.hid hcD
                    clear hcD
                    go_wp2_with fail
                    (with_reducible refine cc.mono ?_)
                    rintro en x4 ⟨rfl, d⟩
                    have D4 := Lib.hid (below_to D3.out d)
                    have BX4 := Lib.hid (below_to BX3.out d)
                    clear d cc q0 q1 q2 q3
                    have c9 := eval_all L V A B cA cB e _ _ x4 (HEE.out.later BX4.out) (HV0.out.later BX4.out) (HK.out.later BX4.out)
                    have kA : ∀ wz, Below u.heap.size u wz → _ := fun wz hb => eval_all L V A B cA cB (ifE yesE e f) _ _ wz (HEE.out.later (below_to BU.out hb)) (XA.out.later hb) (HK.out.later (below_to BU.out hb))
                    have kB : ∀ wz, Below u.heap.size u wz → _ := fun wz hb => eval_all L V A B cA cB (ifE noE f e) _ _ wz (HEE.out.later (below_to BU.out hb)) (XB.out.later hb) (HK.out.later (below_to BU.out hb))
                    have kC : ∀ wz, Below u.heap.size u wz → _ := fun wz hb => eval_all L V A B cA cB (orE yesE e) _ _ wz (HEE.out.later (below_to BU.out hb)) (XC.out.later hb) (HK.out.later (below_to BU.out hb))
                    have kD : ∀ wz, Below u.heap.size u wz → _ := fun wz hb => eval_all L V A B cA cB (andE noE e) _ _ wz (HEE.out.later (below_to BU.out hb)) (XD.out.later hb) (HK.out.later (below_to BU.out hb))
                    rw [if_yes L V HCA.out HCE.out] at kA
                    rw [if_no L V HCB.out HCE.out] at kB
                    rw [or_yes L V HCC.out] at kC
                    rw [and_no L V HCD.out] at kD
                    generalize evA L V e = R at *
                    obtain ⟨K, n, s⟩ := R
                    unfold vaV at c9 kA kB kC kD
                    dsimp only at c9 kA kB kC kD
                    obtain ⟨-, q0, q1, q2, q3, -⟩ := HX0.out.later BX4.out
                    go_wp2_with fail
                    (with_reducible refine c9.mono ?_)
                    rintro en x5 ⟨rfl, d⟩
                    have hat := At3.new x5 K n ⟨s.toArray⟩
                    have hba := below_alloc x5 (.cells #[.int .i64 K, .int .i64 n, .string ⟨s.toArray⟩] 41)
                    have D5 := Lib.hid (below_to (below_to D4.out d) hba)
                    clear d c9 hba q0 q1 q2 q3
                    go_wp2_with fail
                    obtain ⟨W5, hW5⟩ : ∃ x, x5.alloc (.cells #[.int .i64 K, .int .i64 n, .string ⟨s.toArray⟩] 41) = x := ⟨_, rfl⟩
                    rw [hW5] at hat D5 ⊢
                    obtain ⟨gR, hgR⟩ : ∃ g, x5.heap.size = g := ⟨_, rfl⟩
                    rw [hgR] at hat ⊢
                    have AR := Lib.hid hat
                    clear hat hW5 hgR
                    refine wp_region_held_drew (S := fun w' => Below W5.heap.size W5 w') (by kernel_rfl) ((Below.refl _ _).drew) (fun hHeld => ?_)
                    refine held_take (i := 0) (v := ?_) rfl (by kernel_rfl) (by kernel_rfl) (by kernel_rfl) (fun _ _ _ h => h) (by rfl) hHeld ?_ ?_
                    rotate_left
                    · intro wz hSz; obtain ⟨-, q0, q1, q2, q3, -⟩ := BA.out.later (below_to D5.out hSz); go_simp; try with_reducible rfl
                    simp only [Act.put, List.setIfInBounds_toArray, List.set_cons_zero, List.set_cons_succ]
                    refine held_take (i := 1) (v := ?_) rfl (by kernel_rfl) (by kernel_rfl) (by kernel_rfl) (fun _ _ _ h => h) (by rfl) hHeld ?_ ?_
                    rotate_left
                    · intro wz hSz; go_simp; try with_reducible rfl
                    simp only [Act.put, List.setIfInBounds_toArray, List.set_cons_zero, List.set_cons_succ]
                    refine held_take (i := 2) (v := ?_) rfl (by kernel_rfl) (by kernel_rfl) (by kernel_rfl) (fun _ _ _ h => h) (by rfl) hHeld ?_ ?_
                    rotate_left
                    · intro wz hSz; go_simp; try with_reducible rfl
                    simp only [Act.put, List.setIfInBounds_toArray, List.set_cons_zero, List.set_cons_succ]
                    refine held_take (i := 4) (v := ?_) rfl (by kernel_rfl) (by kernel_rfl) (by kernel_rfl) (fun _ _ _ h => h) (by rfl) hHeld ?_ ?_
                    rotate_left
                    · intro wz hSz; obtain ⟨-, q0, q1, q2⟩ := AR.out.later hSz; go_simp; try with_reducible rfl
                    simp only [Act.put, List.setIfInBounds_toArray, List.set_cons_zero, List.set_cons_succ]
                    refine held_call (i := 3) (by kernel_rfl) rfl (by rfl) (by go_simp; try with_reducible rfl) (kA _ (below_to D5.out hHeld)) ?_
                    rintro e wy ⟨rfl, hy⟩
                    refine ⟨_, rfl, below_to hHeld hy, ?_⟩
                    replace hHeld := below_to hHeld hy
                    simp only [Act.put, List.setIfInBounds_toArray, List.set_cons_zero, List.set_cons_succ]
                    refine held_take (i := 5) (v := .bool true) rfl (by kernel_rfl) (by kernel_rfl) (by kernel_rfl) (fun _ _ _ h => h) (by rfl) hHeld ?_ ?_
                    · intro wz hSz; (have ye := same_yes K n ⟨s.toArray⟩ wz; go_simp; first | done | rfl | exact ye)
                    simp only [Act.put, List.setIfInBounds_toArray, List.set_cons_zero, List.set_cons_succ]
                    refine held_take (i := 6) (v := ?_) rfl (by kernel_rfl) (by kernel_rfl) (by kernel_rfl) (fun _ _ _ h => h) (by rfl) hHeld ?_ ?_
                    rotate_left
                    · intro wz hSz; go_simp; try with_reducible rfl
                    simp only [Act.put, List.setIfInBounds_toArray, List.set_cons_zero, List.set_cons_succ]
                    refine held_take (i := 7) (v := ?_) rfl (by kernel_rfl) (by kernel_rfl) (by kernel_rfl) (fun _ _ _ h => h) (by rfl) hHeld ?_ ?_
                    rotate_left
                    · intro wz hSz; obtain ⟨-, q0, q1, q2, q3, -⟩ := BB.out.later (below_to D5.out hSz); go_simp; try with_reducible rfl
                    simp only [Act.put, List.setIfInBounds_toArray, List.set_cons_zero, List.set_cons_succ]
                    refine held_take (i := 8) (v := ?_) rfl (by kernel_rfl) (by kernel_rfl) (by kernel_rfl) (fun _ _ _ h => h) (by rfl) hHeld ?_ ?_
                    rotate_left
                    · intro wz hSz; go_simp; try with_reducible rfl
                    simp only [Act.put, List.setIfInBounds_toArray, List.set_cons_zero, List.set_cons_succ]
                    refine held_take (i := 9) (v := ?_) rfl (by kernel_rfl) (by kernel_rfl) (by kernel_rfl) (fun _ _ _ h => h) (by rfl) hHeld ?_ ?_
                    rotate_left
                    · intro wz hSz; go_simp; try with_reducible rfl
                    simp only [Act.put, List.setIfInBounds_toArray, List.set_cons_zero, List.set_cons_succ]
                    refine held_take (i := 11) (v := ?_) rfl (by kernel_rfl) (by kernel_rfl) (by kernel_rfl) (fun _ _ _ h => h) (by rfl) hHeld ?_ ?_
                    rotate_left
                    · intro wz hSz; obtain ⟨-, q0, q1, q2⟩ := AR.out.later hSz; go_simp; try with_reducible rfl
                    simp only [Act.put, List.setIfInBounds_toArray, List.set_cons_zero, List.set_cons_succ]
                    refine held_call (i := 10) (by kernel_rfl) rfl (by rfl) (by go_simp; try with_reducible rfl) (kB _ (below_to D5.out hHeld)) ?_
                    rintro e wy ⟨rfl, hy⟩
                    refine ⟨_, rfl, below_to hHeld hy, ?_⟩
                    replace hHeld := below_to hHeld hy
                    simp only [Act.put, List.setIfInBounds_toArray, List.set_cons_zero, List.set_cons_succ]
                    refine held_take (i := 12) (v := .bool true) rfl (by kernel_rfl) (by kernel_rfl) (by kernel_rfl) (fun _ _ _ h => h) (by rfl) hHeld ?_ ?_
                    · intro wz hSz; (have ye := same_yes K n ⟨s.toArray⟩ wz; go_simp; first | done | rfl | exact ye)
                    simp only [Act.put, List.setIfInBounds_toArray, List.set_cons_zero, List.set_cons_succ]
                    refine held_take (i := 13) (v := ?_) rfl (by kernel_rfl) (by kernel_rfl) (by kernel_rfl) (fun _ _ _ h => h) (by rfl) hHeld ?_ ?_
                    rotate_left
                    · intro wz hSz; go_simp; try with_reducible rfl
                    simp only [Act.put, List.setIfInBounds_toArray, List.set_cons_zero, List.set_cons_succ]
                    refine held_take (i := 14) (v := ?_) rfl (by kernel_rfl) (by kernel_rfl) (by kernel_rfl) (fun _ _ _ h => h) (by rfl) hHeld ?_ ?_
                    rotate_left
                    · intro wz hSz; go_simp; try with_reducible rfl
                    simp only [Act.put, List.setIfInBounds_toArray, List.set_cons_zero, List.set_cons_succ]
                    refine held_take (i := 15) (v := ?_) rfl (by kernel_rfl) (by kernel_rfl) (by kernel_rfl) (fun _ _ _ h => h) (by rfl) hHeld ?_ ?_
                    rotate_left
                    · intro wz hSz; obtain ⟨-, q0, q1, q2, q3, -⟩ := BC.out.later (below_to D5.out hSz); go_simp; try with_reducible rfl
                    simp only [Act.put, List.setIfInBounds_toArray, List.set_cons_zero, List.set_cons_succ]
                    refine held_take (i := 16) (v := ?_) rfl (by kernel_rfl) (by kernel_rfl) (by kernel_rfl) (fun _ _ _ h => h) (by rfl) hHeld ?_ ?_
                    rotate_left
                    · intro wz hSz; go_simp; try with_reducible rfl
                    simp only [Act.put, List.setIfInBounds_toArray, List.set_cons_zero, List.set_cons_succ]
                    refine held_take (i := 17) (v := ?_) rfl (by kernel_rfl) (by kernel_rfl) (by kernel_rfl) (fun _ _ _ h => h) (by rfl) hHeld ?_ ?_
                    rotate_left
                    · intro wz hSz; go_simp; try with_reducible rfl
                    simp only [Act.put, List.setIfInBounds_toArray, List.set_cons_zero, List.set_cons_succ]
                    refine held_call (i := 18) (by kernel_rfl) rfl (by rfl) (by go_simp; try with_reducible rfl) (kC _ (below_to D5.out hHeld)) ?_
                    rintro e wy ⟨rfl, hy⟩
                    refine ⟨_, rfl, below_to hHeld hy, ?_⟩
                    replace hHeld := below_to hHeld hy
                    simp only [Act.put, List.setIfInBounds_toArray, List.set_cons_zero, List.set_cons_succ]
                    refine held_call (i := 19) (by kernel_rfl) rfl (by rfl) (by go_simp; try with_reducible rfl) (lz_tru true 1 rfl _) ?_
                    rintro e wy ⟨rfl, hy⟩
                    refine ⟨_, rfl, below_to hHeld hy, ?_⟩
                    replace hHeld := below_to hHeld hy
                    simp only [Act.put, List.setIfInBounds_toArray, List.set_cons_zero, List.set_cons_succ]
                    refine held_take (i := 20) (v := .bool true) rfl (by kernel_rfl) (by kernel_rfl) (by kernel_rfl) (fun _ _ _ h => h) (by rfl) hHeld ?_ ?_
                    · intro wz hSz; (have ye := same_yes 2 1 ⟨#[]⟩ wz; go_simp; first | done | rfl | exact ye)
                    simp only [Act.put, List.setIfInBounds_toArray, List.set_cons_zero, List.set_cons_succ]
                    refine held_take (i := 21) (v := ?_) rfl (by kernel_rfl) (by kernel_rfl) (by kernel_rfl) (fun _ _ _ h => h) (by rfl) hHeld ?_ ?_
                    rotate_left
                    · intro wz hSz; go_simp; try with_reducible rfl
                    simp only [Act.put, List.setIfInBounds_toArray, List.set_cons_zero, List.set_cons_succ]
                    refine held_take (i := 22) (v := ?_) rfl (by kernel_rfl) (by kernel_rfl) (by kernel_rfl) (fun _ _ _ h => h) (by rfl) hHeld ?_ ?_
                    rotate_left
                    · intro wz hSz; go_simp; try with_reducible rfl
                    simp only [Act.put, List.setIfInBounds_toArray, List.set_cons_zero, List.set_cons_succ]
                    refine held_take (i := 23) (v := ?_) rfl (by kernel_rfl) (by kernel_rfl) (by kernel_rfl) (fun _ _ _ h => h) (by rfl) hHeld ?_ ?_
                    rotate_left
                    · intro wz hSz; obtain ⟨-, q0, q1, q2, q3, -⟩ := BD.out.later (below_to D5.out hSz); go_simp; try with_reducible rfl
                    simp only [Act.put, List.setIfInBounds_toArray, List.set_cons_zero, List.set_cons_succ]
                    refine held_take (i := 24) (v := ?_) rfl (by kernel_rfl) (by kernel_rfl) (by kernel_rfl) (fun _ _ _ h => h) (by rfl) hHeld ?_ ?_
                    rotate_left
                    · intro wz hSz; go_simp; try with_reducible rfl
                    simp only [Act.put, List.setIfInBounds_toArray, List.set_cons_zero, List.set_cons_succ]
                    refine held_take (i := 25) (v := ?_) rfl (by kernel_rfl) (by kernel_rfl) (by kernel_rfl) (fun _ _ _ h => h) (by rfl) hHeld ?_ ?_
                    rotate_left
                    · intro wz hSz; go_simp; try with_reducible rfl
                    simp only [Act.put, List.setIfInBounds_toArray, List.set_cons_zero, List.set_cons_succ]
                    refine held_call (i := 26) (by kernel_rfl) rfl (by rfl) (by go_simp; try with_reducible rfl) (kD _ (below_to D5.out hHeld)) ?_
                    rintro e wy ⟨rfl, hy⟩
                    refine ⟨_, rfl, below_to hHeld hy, ?_⟩
                    replace hHeld := below_to hHeld hy
                    simp only [Act.put, List.setIfInBounds_toArray, List.set_cons_zero, List.set_cons_succ]
                    refine held_call (i := 27) (by kernel_rfl) rfl (by rfl) (by go_simp; try with_reducible rfl) (lz_tru false 0 rfl _) ?_
                    rintro e wy ⟨rfl, hy⟩
                    refine ⟨_, rfl, below_to hHeld hy, ?_⟩
                    replace hHeld := below_to hHeld hy
                    simp only [Act.put, List.setIfInBounds_toArray, List.set_cons_zero, List.set_cons_succ]
                    refine held_take (i := 28) (v := .bool true) rfl (by kernel_rfl) (by kernel_rfl) (by kernel_rfl) (fun _ _ _ h => h) (by rfl) hHeld ?_ ?_
                    · intro wz hSz; (have ye := same_yes 2 0 ⟨#[]⟩ wz; go_simp; first | done | rfl | exact ye)
                    simp only [Act.put, List.setIfInBounds_toArray, List.set_cons_zero, List.set_cons_succ]
                    refine held_take (i := 29) (v := ?_) rfl (by kernel_rfl) (by kernel_rfl) (by kernel_rfl) (fun _ _ _ h => h) (by rfl) hHeld ?_ ?_
                    rotate_left
                    · intro wz hSz; go_simp; try with_reducible rfl
                    simp only [Act.put, List.setIfInBounds_toArray, List.set_cons_zero, List.set_cons_succ]
                    refine held_take (i := 30) (v := ?_) rfl (by kernel_rfl) (by kernel_rfl) (by kernel_rfl) (fun _ _ _ h => h) (by rfl) hHeld ?_ ?_
                    rotate_left
                    · intro wz hSz; go_simp; try with_reducible rfl
                    simp only [Act.put, List.setIfInBounds_toArray, List.set_cons_zero, List.set_cons_succ]
                    refine held_call (i := 31) (by kernel_rfl) rfl (by rfl) (by go_simp; try with_reducible rfl) (evawake_any _ (HEE.out.later (below_to BU.out (below_to D5.out hHeld)))) ?_
                    rintro e wy ⟨rfl, hy⟩
                    refine ⟨_, rfl, below_to hHeld hy, ?_⟩
                    replace hHeld := below_to hHeld hy
                    simp only [Act.put, List.setIfInBounds_toArray, List.set_cons_zero, List.set_cons_succ]
                    refine held_take (i := 32) (v := ?_) rfl (by kernel_rfl) (by kernel_rfl) (by kernel_rfl) (fun _ _ _ h => h) (by rfl) hHeld ?_ ?_
                    rotate_left
                    · intro wz hSz; go_simp; try with_reducible rfl
                    simp only [Act.put, List.setIfInBounds_toArray, List.set_cons_zero, List.set_cons_succ]
                    refine held_take (i := 33) (v := ?_) rfl (by kernel_rfl) (by kernel_rfl) (by kernel_rfl) (fun _ _ _ h => h) (by rfl) hHeld ?_ ?_
                    rotate_left
                    · intro wz hSz; go_simp; try with_reducible rfl
                    simp only [Act.put, List.setIfInBounds_toArray, List.set_cons_zero, List.set_cons_succ]
                    refine wpAnyH_done (by kernel_rfl) ?_ _
                    have HBF := Lib.hid (below_to HB0.out (below_to BU.out (below_to D5.out hHeld)))
                    go_wp2_with fail
                    go_ret
                    exact ⟨rfl, HBF.out⟩
end Go.Proofs.YtaaibciacipelaaGreatDoor
