/- EvalWords' small functions: text, may. -/
import Derived.Test.YtaaibciacipelaaGreatDoorHB
import Derived.Test.YtaaibciacipelaaGreatDoorGW
namespace Go.Proofs.YtaaibciacipelaaGreatDoor
open Go.RowKit

theorem wtext_any (s : ByteArray) (w : World) : Calls Tryz.prog 26 #[.string s] w fun e w' => e = .returned (EV 2 0 s (.slice none 0 0)) ∧ Below w.heap.size w w' := by
  have HB := Lib.hid (below_alloc w (.cells #[.int .i64 2, .int .i64 0, .string s, .slice none 0 0] 24))
  go_enter Tryz.func26, Tryz.ntmps26
  go_wp2_with fail
  exact bodyPost_ret (v := EV 2 0 s (.slice none 0 0)) (by simp [results, Tryz.results26, go_sem, *]) rfl ⟨rfl, HB.out⟩
theorem may_any (s : ByteArray) (w : World) : Calls Tryz.prog 25 #[.string s] w fun e w' => e = .returned (.bool (checkB 3 0 s.data.toList)) ∧ Below w.heap.size w w' := by
  have c := fun w => refCheck_any 3 0 s w
  generalize checkB 3 0 s.data.toList = z at *
  go_enter Tryz.func25, Tryz.ntmps25
  go_wp2_with fail
  (with_reducible refine (c _).mono ?_)
  rintro e w1 ⟨rfl, b1⟩
  have HF := Lib.hid b1
  clear b1
  go_wp2_with fail
  go_ret
  exact ⟨rfl, HF.out⟩
theorem count_app {a : List UInt8} (b : List UInt8) (h : validL a = true) : countL (a ++ b) = countL a + countL b := by
  unfold countL
  rw [pcs_append a b h, List.length_append]
theorem cut_app {a : List UInt8} (b : List UInt8) (h : validL a = true) : cutL (a ++ b) (countL a) = a := by
  unfold cutL countL
  rw [pcs_append a b h, List.take_left, flat_pcs]
/-- A text's place in a formula, and its operations. -/
def lenE (s : List UInt8) : Ex := .mk 19 0 [] [.mk 2 0 s []]
def catE (s t : List UInt8) : Ex := .mk 20 0 [] [.mk 2 0 s [], .mk 2 0 t []]
def cutE (s : List UInt8) : Ex := .mk 21 0 [] [.mk 2 0 s [], .mk 4 0 [110] []]
theorem chk_text {s : List UInt8} (h : checkB 3 0 s = true) : validL s = true ∧ countL s ≤ 100 := by
  have := Va.ok.text (a := ⟨3, 0, s⟩) ⟨h, by show _ ≤ (0 : Int); decide, by show (0 : Int) ≤ _; decide⟩ rfl
  exact ⟨this.1, this.2.1⟩
theorem part_text {s : List UInt8} (h : checkB 3 0 s = true) : partB (.mk 2 0 s []) = true := by
  obtain ⟨h1, h2⟩ := chk_text h
  unfold partB
  simp [Ex.op, Ex.kids, Ex.num, Ex.str, arity, plainB, hasB, textB, h1, h2]
theorem name_n : partB (.mk 4 0 [110] []) = true := by
  have h : chkB (.mk 4 0 [110] []) = true := by
    rw [← chkC_eq]
    decide +kernel
  unfold chkB at h
  rw [allB] at h
  simp only [Bool.and_eq_true] at h
  exact h.2.1
theorem len_chk {s : List UInt8} (h : checkB 3 0 s = true) : chkB (lenE s) = true := by
  have h1 := part_text h
  unfold chkB lenE
  simp only [nodes, nodesL, deepE, deepL, allB, allBL, h1]
  simp [partB, Ex.op, Ex.kids, Ex.num, Ex.str, arity, plainB, hasB]
theorem cat_chk {s t : List UInt8} (h : checkB 3 0 s = true) (h' : checkB 3 0 t = true) : chkB (catE s t) = true := by
  have h1 := part_text h
  have h2 := part_text h'
  unfold chkB catE
  simp only [nodes, nodesL, deepE, deepL, allB, allBL, h1, h2]
  simp [partB, Ex.op, Ex.kids, Ex.num, Ex.str, arity, plainB, hasB]
theorem cut_chk {s : List UInt8} (h : checkB 3 0 s = true) : chkB (cutE s) = true := by
  have h1 := part_text h
  have h2 := name_n
  unfold chkB cutE
  simp only [nodes, nodesL, deepE, deepL, allB, allBL, h1, h2]
  simp [partB, Ex.op, Ex.kids, Ex.num, Ex.str, arity, plainB, hasB]
theorem len_ev (N : List ByteArray) (V : List Va) {s : List UInt8} (h : checkB 3 0 s = true) : evA N V (lenE s) = ⟨1, (countL s : Int), []⟩ := by
  unfold evA
  rw [len_chk h, if_pos rfl]
  unfold lenE
  rw [evalE_op (by decide) (by decide), evalL, evalL, evalE]
  rfl
theorem cat_ev (N : List ByteArray) (V : List Va) {s t : List UInt8} (h : checkB 3 0 s = true) (h' : checkB 3 0 t = true) : evA N V (catE s t) = texV (s ++ t) := by
  unfold evA
  rw [cat_chk h h', if_pos rfl]
  unfold catE
  rw [evalE_op (by decide) (by decide), evalL, evalL, evalL, evalE, evalE]
  rfl
theorem cut_ev {s : List UInt8} (n : Int) (h : checkB 3 0 s = true) : evA [⟨#[110]⟩] [⟨1, n, []⟩] (cutE s) = ⟨3, 0, cutL s n.toNat⟩ := by
  unfold evA
  rw [cut_chk h, if_pos rfl]
  unfold cutE
  rw [evalE_op (by decide) (by decide), evalL, evalL, evalL, evalE, evalE]
  rfl
theorem text_leaf {w : World} {S : Nat → Prop} {l : List UInt8} (hl : l.length ≤ 800) : ExIn w S (.mk 2 0 l []) (EV 2 0 ⟨l.toArray⟩ (.slice none 0 0)) :=
  ExIn.leaf ⟨⟨by decide, by decide⟩, ⟨by decide, by decide⟩, by omega⟩
theorem len_call {l : List UInt8} (h : checkB 3 0 l = true) (hl : l.length ≤ 800) (w : World) (hE : EnvP w) :
    Calls Tryz.prog 20 #[EV 19 0 ⟨#[]⟩ (.slice (some ⟨w.heap.size, 0, none⟩) 1 1), .slice none 0 0, .slice none 0 0] (w.alloc (.cells #[.int .i64 2, .int .i64 0, .string ⟨l.toArray⟩, .slice none 0 0] 24)) fun en w' => en = .returned (V3 1 (countL l : Int) ⟨#[]⟩) ∧ Below w.heap.size w w' := by
  have hc := cells_of_alloc w #[.int .i64 2, .int .i64 0, .string ⟨l.toArray⟩, .slice none 0 0] 24
  have hnb := NB.new w #[.int .i64 2, .int .i64 0, .string ⟨l.toArray⟩, .slice none 0 0] 24
  have hz := alloc_size w (.cells #[.int .i64 2, .int .i64 0, .string ⟨l.toArray⟩, .slice none 0 0] 24)
  have hb := below_alloc w (.cells #[.int .i64 2, .int .i64 0, .string ⟨l.toArray⟩, .slice none 0 0] 24)
  have hi : ExIn (w.alloc (.cells #[.int .i64 2, .int .i64 0, .string ⟨l.toArray⟩, .slice none 0 0] 24)) (fun _ => True) (lenE l) (EV 19 0 ⟨#[]⟩ (.slice (some ⟨w.heap.size, 0, none⟩) 1 1)) :=
    ex_one (op := 19) ⟨by decide, by decide⟩ trivial (by omega) (RowIn.one hnb (hc 0) (hc 1) (hc 2) (hc 3) (text_leaf hl) .none)
  have c := eval_none (lenE l) _ _ _ (hE.later hb) hi
  rw [len_ev [] [] h] at c
  exact c.mono fun e w' h => ⟨h.1, below_to hb h.2⟩
theorem cat_call {l m : List UInt8} (h : checkB 3 0 l = true) (hl : l.length ≤ 800) (h' : checkB 3 0 m = true) (hm : m.length ≤ 800) {K n : Int} {r : List UInt8} (hr : texV (l ++ m) = ⟨K, n, r⟩) (w : World) (hE : EnvP w) :
    Calls Tryz.prog 20 #[EV 20 0 ⟨#[]⟩ (.slice (some ⟨w.heap.size, 0, none⟩) 2 2), .slice none 0 0, .slice none 0 0] (w.alloc (.cells #[.int .i64 2, .int .i64 0, .string ⟨l.toArray⟩, .slice none 0 0, .int .i64 2, .int .i64 0, .string ⟨m.toArray⟩, .slice none 0 0] 24)) fun en w' => en = .returned (V3 K n ⟨r.toArray⟩) ∧ Below w.heap.size w w' := by
  have hc := cells_of_alloc w #[.int .i64 2, .int .i64 0, .string ⟨l.toArray⟩, .slice none 0 0, .int .i64 2, .int .i64 0, .string ⟨m.toArray⟩, .slice none 0 0] 24
  have hnb := NB.new w #[.int .i64 2, .int .i64 0, .string ⟨l.toArray⟩, .slice none 0 0, .int .i64 2, .int .i64 0, .string ⟨m.toArray⟩, .slice none 0 0] 24
  have hz := alloc_size w (.cells #[.int .i64 2, .int .i64 0, .string ⟨l.toArray⟩, .slice none 0 0, .int .i64 2, .int .i64 0, .string ⟨m.toArray⟩, .slice none 0 0] 24)
  have hb := below_alloc w (.cells #[.int .i64 2, .int .i64 0, .string ⟨l.toArray⟩, .slice none 0 0, .int .i64 2, .int .i64 0, .string ⟨m.toArray⟩, .slice none 0 0] 24)
  have hi : ExIn (w.alloc (.cells #[.int .i64 2, .int .i64 0, .string ⟨l.toArray⟩, .slice none 0 0, .int .i64 2, .int .i64 0, .string ⟨m.toArray⟩, .slice none 0 0] 24)) (fun _ => True) (catE l m) (EV 20 0 ⟨#[]⟩ (.slice (some ⟨w.heap.size, 0, none⟩) 2 2)) :=
    ex_two (op := 20) ⟨by decide, by decide⟩ trivial (by omega) (RowIn.one hnb (hc 0) (hc 1) (hc 2) (hc 3) (text_leaf hl) (RowIn.one hnb (hc 4) (hc 5) (hc 6) (hc 7) (text_leaf hm) .none))
  have c := eval_none (catE l m) _ _ _ (hE.later hb) hi
  rw [cat_ev [] [] h h', hr] at c
  exact c.mono fun e w' h => ⟨h.1, below_to hb h.2⟩
theorem cut_call {l : List UInt8} (h : checkB 3 0 l = true) (hl : l.length ≤ 800) (n : Int) (n0 : -9223372036854775808 ≤ n) (n1 : n ≤ 9223372036854775807) {r : List UInt8} (hr : cutL l n.toNat = r) (w : World) (hE : EnvP w) :
    Calls Tryz.prog 20 #[EV 21 0 ⟨#[]⟩ (.slice (some ⟨w.heap.size, 0, none⟩) 2 2), .slice (some ⟨w.heap.size + 1, 0, none⟩) 1 1, .slice (some ⟨w.heap.size + 1 + 1, 0, none⟩) 1 1]
      (((w.alloc (.cells #[.int .i64 2, .int .i64 0, .string ⟨l.toArray⟩, .slice none 0 0, .int .i64 4, .int .i64 0, .string ⟨#[110]⟩, .slice none 0 0] 24)).alloc (.cells #[.string ⟨#[110]⟩] 9)).alloc (.cells #[.int .i64 1, .int .i64 n, .string ⟨#[]⟩] 41))
      fun en w' => en = .returned (V3 3 0 ⟨r.toArray⟩) ∧ Below w.heap.size w w' := by
  have hc := cells_of_alloc w #[.int .i64 2, .int .i64 0, .string ⟨l.toArray⟩, .slice none 0 0, .int .i64 4, .int .i64 0, .string ⟨#[110]⟩, .slice none 0 0] 24
  have hnb := NB.new w #[.int .i64 2, .int .i64 0, .string ⟨l.toArray⟩, .slice none 0 0, .int .i64 4, .int .i64 0, .string ⟨#[110]⟩, .slice none 0 0] 24
  have hz := alloc_size w (.cells #[.int .i64 2, .int .i64 0, .string ⟨l.toArray⟩, .slice none 0 0, .int .i64 4, .int .i64 0, .string ⟨#[110]⟩, .slice none 0 0] 24)
  have hb := below_alloc w (.cells #[.int .i64 2, .int .i64 0, .string ⟨l.toArray⟩, .slice none 0 0, .int .i64 4, .int .i64 0, .string ⟨#[110]⟩, .slice none 0 0] 24)
  have hi : ExIn (w.alloc (.cells #[.int .i64 2, .int .i64 0, .string ⟨l.toArray⟩, .slice none 0 0, .int .i64 4, .int .i64 0, .string ⟨#[110]⟩, .slice none 0 0] 24)) (fun _ => True) (cutE l) (EV 21 0 ⟨#[]⟩ (.slice (some ⟨w.heap.size, 0, none⟩) 2 2)) :=
    ex_two (op := 21) ⟨by decide, by decide⟩ trivial (by omega) (RowIn.one hnb (hc 0) (hc 1) (hc 2) (hc 3) (text_leaf hl) (RowIn.one hnb (hc 4) (hc 5) (hc 6) (hc 7) (ExIn.leaf (op := 4) (n := 0) (s := [110]) ⟨⟨by decide, by decide⟩, ⟨by decide, by decide⟩, by decide⟩) .none))
  generalize w.alloc (.cells #[.int .i64 2, .int .i64 0, .string ⟨l.toArray⟩, .slice none 0 0, .int .i64 4, .int .i64 0, .string ⟨#[110]⟩, .slice none 0 0] 24) = w1 at *
  have b2 := below_alloc w1 (.cells #[.string ⟨#[110]⟩] 9)
  have z2 := alloc_size w1 (.cells #[.string ⟨#[110]⟩] 9)
  have hn : Ts (w1.alloc (.cells #[.string ⟨#[110]⟩] 9)) (some ⟨w1.heap.size, 0, none⟩) [⟨#[110]⟩] := fun _ => ⟨w1.heap.size, 0, rfl, fun j hj => by
    rw [cells_of_alloc]
    match j, hj with
    | 0, _ => rfl⟩
  generalize w1.alloc (.cells #[.string ⟨#[110]⟩] 9) = w2 at *
  have b3 := below_alloc w2 (.cells #[.int .i64 1, .int .i64 n, .string ⟨#[]⟩] 41)
  have c3 := cells_of_alloc w2 #[.int .i64 1, .int .i64 n, .string ⟨#[]⟩] 41
  have hv : Vs (w2.alloc (.cells #[.int .i64 1, .int .i64 n, .string ⟨#[]⟩] 41)) (some ⟨w2.heap.size, 0, none⟩) [⟨1, n, []⟩] := fun _ => ⟨w2.heap.size, 0, rfl, fun k v hk => by
    match k, hk with
    | 0, hk => obtain rfl : (⟨1, n, []⟩ : Va) = v := by simpa using hk
               exact ⟨c3 0, c3 1, c3 2⟩
    | k + 1, hk => simp at hk⟩
  generalize w2.alloc (.cells #[.int .i64 1, .int .i64 n, .string ⟨#[]⟩] 41) = w3 at *
  rw [hz] at hn z2
  rw [z2] at hv
  have hB := below_to (below_to hb b2) b3
  have hx : (⟨1, n, []⟩ : Va).ok := ok_int n0 n1
  have c := eval_all [⟨#[110]⟩] [⟨1, n, []⟩] (some ⟨w.heap.size + 1, 0, none⟩) (some ⟨w.heap.size + 1 + 1, 0, none⟩) 1 1 (cutE l) _ _ _ (hE.later hB) ((hi.later b2).later b3)
    ⟨hn.below b3, hv, (hE.later hB).env.tabs, by decide, by simp, fun v hv => by
      rw [List.mem_singleton.1 hv]; show (0 : Nat) < 9223372036854775807; decide, fun v hv => by
      rw [List.mem_singleton.1 hv]; exact hx.2⟩
  rw [cut_ev n h, hr] at c
  exact c.mono fun e w' h => ⟨h.1, below_to hB h.2⟩
/-- The same, wherever the three rows lie. -/
theorem cut_rows {l : List UInt8} (h : checkB 3 0 l = true) (n : Int) (n0 : -9223372036854775808 ≤ n) (n1 : n ≤ 9223372036854775807) {r : List UInt8} (hr : cutL l n.toNat = r) {w : World} {v : Value} {gn gv : Nat} (hE : EnvP w)
    (hi : ExIn w (fun _ => True) (cutE l) v) (hn : Ts w (some ⟨gn, 0, none⟩) [⟨#[110]⟩]) (hv : Vs w (some ⟨gv, 0, none⟩) [⟨1, n, []⟩]) :
    Calls Tryz.prog 20 #[v, .slice (some ⟨gn, 0, none⟩) 1 1, .slice (some ⟨gv, 0, none⟩) 1 1] w fun en w' => en = .returned (V3 3 0 ⟨r.toArray⟩) ∧ Below w.heap.size w w' := by
  have hx : (⟨1, n, []⟩ : Va).ok := ok_int n0 n1
  have c := eval_all [⟨#[110]⟩] [⟨1, n, []⟩] (some ⟨gn, 0, none⟩) (some ⟨gv, 0, none⟩) 1 1 (cutE l) _ _ _ hE hi
    ⟨hn, hv, hE.env.tabs, by decide, by simp, fun v hv => by
      rw [List.mem_singleton.1 hv]; show (0 : Nat) < 9223372036854775807; decide, fun v hv => by
      rw [List.mem_singleton.1 hv]; exact hx.2⟩
  rw [cut_ev n h, hr] at c
  exact c
end Go.Proofs.YtaaibciacipelaaGreatDoor
