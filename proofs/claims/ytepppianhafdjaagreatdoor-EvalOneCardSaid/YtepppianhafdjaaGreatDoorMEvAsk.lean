/- EvalOne's ask: a comparison of two values, as a number. -/
import Derived.Test.YtepppianhafdjaaGreatDoorMEvLw
import Derived.Test.YtepppianhafdjaaGreatDoorGW
namespace Go.Proofs.YtepppianhafdjaaGreatDoor
open Go.RowKit

theorem lex_tri : ∀ l m : List UInt8, (l < m ∧ ¬ m < l ∧ l ≠ m) ∨ (m < l ∧ ¬ l < m ∧ l ≠ m) ∨ (l = m ∧ ¬ l < m ∧ ¬ m < l)
  | [], [] => .inr (.inr ⟨rfl, List.not_lt_nil _, List.not_lt_nil _⟩)
  | [], b :: m => .inl ⟨List.nil_lt_cons _ _, List.not_lt_nil _, by simp⟩
  | a :: l, [] => .inr (.inl ⟨List.nil_lt_cons _ _, List.not_lt_nil _, by simp⟩)
  | a :: l, b :: m => by
    rw [List.cons_lt_cons_iff, List.cons_lt_cons_iff]
    have hab : a < b ∨ a = b ∨ b < a := by
      rcases Nat.lt_trichotomy a.toNat b.toNat with h | h | h
      · exact .inl h
      · exact .inr (.inl (UInt8.toNat_inj.1 h))
      · exact .inr (.inr h)
    have hasym : ∀ a b : UInt8, a < b → ¬ b < a := fun a b h h' => Nat.lt_asymm (show a.toNat < b.toNat from h) h'
    have hirr : ∀ a : UInt8, ¬ a < a := fun a h => Nat.lt_irrefl _ (show a.toNat < a.toNat from h)
    rcases hab with h | rfl | h
    · refine .inl ⟨.inl h, ?_, fun e => ?_⟩
      · rintro (h' | ⟨rfl, _⟩)
        · exact hasym _ _ h h'
        · exact hirr _ h
      · injection e with e _; subst e; exact hirr _ h
    · rcases lex_tri l m with ⟨h1, h2, h3⟩ | ⟨h1, h2, h3⟩ | ⟨rfl, h2, h3⟩
      · refine .inl ⟨.inr ⟨rfl, h1⟩, ?_, fun e => h3 (by injection e)⟩
        rintro (h' | ⟨_, h'⟩)
        · exact hirr _ h'
        · exact h2 h'
      · refine .inr (.inl ⟨.inr ⟨rfl, h1⟩, ?_, fun e => h3 (by injection e)⟩)
        rintro (h' | ⟨_, h'⟩)
        · exact hirr _ h'
        · exact h2 h'
      · refine .inr (.inr ⟨rfl, ?_, ?_⟩)
        all_goals
          rintro (h' | ⟨_, h'⟩)
          · exact hirr _ h'
          · first | exact h2 h' | exact h3 h'
    · refine .inr (.inl ⟨.inl h, ?_, fun e => ?_⟩)
      · rintro (h' | ⟨rfl, _⟩)
        · exact hasym _ _ h h'
        · exact hirr _ h
      · injection e with e _; subst e; exact hirr _ h
theorem op_cmpV {op : Int} {x y : Va} (h12 : 12 ≤ op) (h15 : op ≤ 15) : opV op [x, y] = cmpV op x y := by
  unfold opV
  rw [if_neg (by omega), if_neg (by omega), if_neg (by omega), if_neg (by omega), if_neg (by omega), if_pos ⟨h12, h15⟩]
  rfl
/-- Of two numbers, or texts, one is less, or they are the same. -/
structure OneOf (x y : Va) (l g e : Int) : Prop where
  l0 : 0 ≤ l ∧ l ≤ 1
  g0 : 0 ≤ g ∧ g ≤ 1
  e0 : 0 ≤ e ∧ e ≤ 1
  sum : l + g + e = 1
  lt : opV 14 [x, y] = ⟨2, l, []⟩
  gt : opV 14 [y, x] = ⟨2, g, []⟩
  eq : opV 12 [x, y] = ⟨2, e, []⟩
  ne : opV 13 [x, y] = ⟨2, 1 - e, []⟩
  le : opV 15 [x, y] = ⟨2, l + e, []⟩
  ge : opV 15 [y, x] = ⟨2, g + e, []⟩
  eq2 : opV 12 [y, x] = ⟨2, e, []⟩
theorem one_of {x y : Va} (hk : x.k = y.k) (h : x.k = 1 ∨ x.k = 3) : ∃ l g e, OneOf x y l g e := by
  have main : ∀ lt gt eq : Prop, ∀ [Decidable lt] [Decidable gt] [Decidable eq], ((lt ∧ ¬ gt ∧ ¬ eq) ∨ (gt ∧ ¬ lt ∧ ¬ eq) ∨ (eq ∧ ¬ lt ∧ ¬ gt)) →
      (∀ op, 12 ≤ op → op ≤ 15 → opV op [x, y] = truV (holdB op (decide lt) (decide eq))) → (∀ op, 12 ≤ op → op ≤ 15 → opV op [y, x] = truV (holdB op (decide gt) (decide eq))) → ∃ l g e, OneOf x y l g e := by
    intro lt gt eq _ _ _ ht h1 h2
    rcases ht with ⟨a, b, c⟩ | ⟨b, a, c⟩ | ⟨c, a, b⟩
    · refine ⟨1, 0, 0, by decide, by decide, by decide, by decide, ?_, ?_, ?_, ?_, ?_, ?_, ?_⟩
      all_goals first | (rw [h1 _ (by decide) (by decide)]; simp [*, holdB, truV]) | (rw [h2 _ (by decide) (by decide)]; simp [*, holdB, truV])
    · refine ⟨0, 1, 0, by decide, by decide, by decide, by decide, ?_, ?_, ?_, ?_, ?_, ?_, ?_⟩
      all_goals first | (rw [h1 _ (by decide) (by decide)]; simp [*, holdB, truV]) | (rw [h2 _ (by decide) (by decide)]; simp [*, holdB, truV])
    · refine ⟨0, 0, 1, by decide, by decide, by decide, by decide, ?_, ?_, ?_, ?_, ?_, ?_, ?_⟩
      all_goals first | (rw [h1 _ (by decide) (by decide)]; simp [*, holdB, truV]) | (rw [h2 _ (by decide) (by decide)]; simp [*, holdB, truV])
  rcases h with h | h
  · refine main (x.n < y.n) (y.n < x.n) (x.n = y.n) (by omega) (fun op h1 h2 => ?_) (fun op h1 h2 => ?_)
    · rw [op_cmpV h1 h2]; unfold cmpV wantV; rw [if_pos h, if_pos (by omega)]
    · rw [op_cmpV h1 h2]; unfold cmpV wantV; rw [if_pos (by omega), if_pos h, show decide (y.n = x.n) = decide (x.n = y.n) from decide_eq_decide.2 eq_comm]
  · have ht := lex_tri x.s y.s
    refine main (x.s < y.s) (y.s < x.s) (x.s = y.s) (by
      rcases ht with ⟨a, b, c⟩ | ⟨a, b, c⟩ | ⟨a, b, c⟩
      · exact .inl ⟨a, b, c⟩
      · exact .inr (.inl ⟨a, b, c⟩)
      · exact .inr (.inr ⟨a, b, c⟩)) (fun op h1 h2 => ?_) (fun op h1 h2 => ?_)
    · rw [op_cmpV h1 h2]; unfold cmpV wantV; rw [if_neg (by omega), if_pos h, if_pos (by omega)]
    · rw [op_cmpV h1 h2]; unfold cmpV wantV; rw [if_neg (by omega), if_pos (by omega), if_pos h, show decide (y.s = x.s) = decide (x.s = y.s) from decide_eq_decide.2 eq_comm]
/-! The other way round: b ahead of a. -/
def baE (op : Int) : Ex := .mk op 0 [] [.mk 4 0 [98] [], .mk 4 0 [97] []]
theorem ba_chk : ∀ op : Fin 11, chkB (baE ((7 + op.val : Nat) : Int)) = true := fun op => by
  rw [← chkC_eq]
  exact (show ∀ op : Fin 11, chkC (baE ((7 + op.val : Nat) : Int)) = true by decide +kernel) op
theorem ba_ev (op : Int) (x y : Va) (h7 : 7 ≤ op) (h17 : op ≤ 17) (hx : x.ok) (hy : y.ok) : evA abN (abV x y) (baE op) = opV op [y, x] := by
  have hc := ba_chk ⟨(op - 7).toNat, by omega⟩
  rw [show ((7 + (op - 7).toNat : Nat) : Int) = op by omega] at hc
  obtain ⟨e1, e2⟩ := ab_name x y hx hy
  unfold evA
  rw [hc, if_pos rfl]
  unfold baE
  rw [evalE_op (by omega) (by omega), evalL, evalL, evalL]
  have n1 : evalE abN (abV x y) (.mk 4 0 [97] []) = x := by
    rw [evalE]
    exact e1
  have n2 : evalE abN (abV x y) (.mk 4 0 [98] []) = y := by
    rw [evalE]
    exact e2
  rw [n1, n2]
/-- Either way round. -/
def swE (sw : Bool) (op : Int) : Ex := if sw then baE op else abE op
def swP (sw : Bool) : ByteArray := if sw then ⟨#[98]⟩ else ⟨#[97]⟩
def swQ (sw : Bool) : ByteArray := if sw then ⟨#[97]⟩ else ⟨#[98]⟩
abbrev swCells (sw : Bool) : Array Value := #[.int .i64 4, .int .i64 0, .string (swP sw), .slice none 0 0, .int .i64 4, .int .i64 0, .string (swQ sw), .slice none 0 0]
theorem sw_in (sw : Bool) (w : World) (op : Int) (h7 : 7 ≤ op) (h17 : op ≤ 17) : ExIn (w.alloc (.cells (swCells sw) 30)) (fun _ => True) (swE sw op) (EV op 0 ⟨#[]⟩ (.slice (some ⟨w.heap.size, 0, none⟩) 2 2)) := by
  cases sw with
  | false => exact ab_in w op h7 h17
  | true =>
    have hc := cells_of_alloc w (swCells true) 30
    have hnb := NB.new w (swCells true) 30
    have hz := alloc_size w (.cells (swCells true) 30)
    refine ex_two (op := op) ⟨by omega, by omega⟩ trivial (by omega) ?_
    have k1 : ∀ S, ExIn (w.alloc (.cells (swCells true) 30)) S (.mk 4 0 [98] []) (EV 4 0 ⟨#[98]⟩ (.slice none 0 0)) := fun S => ExIn.leaf (op := 4) (n := 0) (s := [98]) ⟨⟨by decide, by decide⟩, ⟨by decide, by decide⟩, by decide⟩
    have k2 : ∀ S, ExIn (w.alloc (.cells (swCells true) 30)) S (.mk 4 0 [97] []) (EV 4 0 ⟨#[97]⟩ (.slice none 0 0)) := fun S => ExIn.leaf (op := 4) (n := 0) (s := [97]) ⟨⟨by decide, by decide⟩, ⟨by decide, by decide⟩, by decide⟩
    exact RowIn.one hnb (hc 0) (hc 1) (hc 2) (hc 3) (k1 _) (RowIn.one hnb (hc 4) (hc 5) (hc 6) (hc 7) (k2 _) .none)
theorem sw_ev (sw : Bool) (op : Int) (x y : Va) (h7 : 7 ≤ op) (h17 : op ≤ 17) (hx : x.ok) (hy : y.ok) : evA abN (abV x y) (swE sw op) = opV op (if sw then [y, x] else [x, y]) := by
  cases sw with
  | false => exact ab_ev op x y h7 h17 hx hy
  | true => exact ba_ev op x y h7 h17 hx hy
/-- The memory that ask works on: the names, the two values. -/
structure AskS (w : World) (gN gn gA gB : Nat) (x y : Va) : Prop where
  cN : w.cell? ⟨gN, 0, none⟩ = some (.slice (some ⟨gn, 0, none⟩) 2 2)
  names : Ts w (some ⟨gn, 0, none⟩) abN
  a : At3 w gA x.k x.n ⟨x.s.toArray⟩
  b : At3 w gB y.k y.n ⟨y.s.toArray⟩
theorem AskS.later {w w' : World} {gN gn gA gB : Nat} {x y : Va} (h : AskS w gN gn gA gB x y) (hb : Below w.heap.size w w') : AskS w' gN gn gA gB x y :=
  ⟨(hb.cell (p := ⟨gN, 0, none⟩) (World.block_lt_of_cell? w _ h.cN)).trans h.cN, h.names.below hb, h.a.later hb, h.b.later hb⟩
set_option maxHeartbeats 4000000 in
theorem ask_any (sw : Bool) (op z : Int) (gN gn gA gB : Nat) (x y : Va) (w : World) (h7 : 7 ≤ op) (h17 : op ≤ 17) (hx : x.ok) (hy : y.ok) (hE : EnvP w) (hS : AskS w gN gn gA gB x y) (hz : opV op (if sw then [y, x] else [x, y]) = ⟨2, z, []⟩) :
    Calls Tryz.prog 19 #[.int .i64 op, .string (swP sw), .string (swQ sw), .pointer (some ⟨gN, 0, none⟩), .pointer (some ⟨gA, 0, none⟩), .pointer (some ⟨gB, 0, none⟩)] w fun e w' => e = .returned (.int .i64 z) ∧ Below w.heap.size w w' := by
  have h1 := alloc_size w (.cells (swCells sw) 30)
  have hb : Below w.heap.size w ((w.alloc (.cells (swCells sw) 30)).alloc (.cells (vCells x y) 23)) := ((Below.refl _ w).alloc (Nat.le_refl _) _).alloc (by simp) _
  have hi := (sw_in sw w op h7 h17).later (below_alloc _ (.cells (vCells x y) 23))
  have hv := ab_vals (w.alloc (.cells (swCells sw) 30)) x y
  rw [h1] at hv
  have lx := hx.size
  have ly := hy.size
  have c := eval_all abN (abV x y) (some ⟨gn, 0, none⟩) (some ⟨w.heap.size + 1, 0, none⟩) 2 2 (swE sw op) _ _ _ (hE.later hb) hi
    ⟨hS.names.below hb, hv, (hE.later hb).env.tabs, by decide, by unfold abV; simp, fun v hv => by
      unfold abV at hv
      rcases List.mem_cons.1 hv with rfl | hv
      · omega
      · rw [List.mem_singleton.1 hv]; omega, fun v hv => by
      unfold abV at hv
      rcases List.mem_cons.1 hv with rfl | hv
      · exact hx.2
      · rw [List.mem_singleton.1 hv]; exact hy.2⟩
  rw [sw_ev sw op x y h7 h17 hx hy, hz] at c
  have c' : Calls Tryz.prog 15 #[EV op 0 ⟨#[]⟩ (.slice (some ⟨w.heap.size, 0, none⟩) 2 2), .slice (some ⟨gn, 0, none⟩) 2 2, .slice (some ⟨w.heap.size + 1, 0, none⟩) 2 2] ((w.alloc (.cells (swCells sw) 30)).alloc (.cells (vCells x y) 23)) fun en w' => en = .returned (V3 2 z ⟨#[]⟩) ∧ Below ((w.alloc (.cells (swCells sw) 30)).alloc (.cells (vCells x y) 23)).heap.size ((w.alloc (.cells (swCells sw) 30)).alloc (.cells (vCells x y) 23)) w' := c
  obtain ⟨n0, -, ⟨ga, a0, a1, a2⟩, ⟨gb, b0, b1, b2⟩⟩ := hS
  have gn0 := World.block_lt_of_cell? w _ n0
  have HB := Lib.hid hb
  obtain ⟨K, n, s⟩ := x
  obtain ⟨L, m, t⟩ := y
  dsimp only at a0 a1 a2 b0 b1 b2
  clear c hi hv h1 hE hz hx hy lx ly hb
  dsimp only [vCells, swCells] at c' HB
  generalize swP sw = P at *
  generalize swQ sw = Q at *
  go_enter Tryz.func19, Tryz.ntmps19
  go_wp2_with fail
  (with_reducible refine c'.mono ?_)
  rintro e w5 ⟨rfl, b5⟩
  have HBF := Lib.hid (below_to (below_to HB.out b5) (below_alloc w5 (.cells #[.int .i64 2, .int .i64 z, .string ⟨#[]⟩] 23)))
  clear c' b5 a0 a1 a2 b0 b1 b2 n0
  go_wp2_with fail
  go_ret
  exact ⟨rfl, HBF.out⟩
end Go.Proofs.YtepppianhafdjaaGreatDoor
