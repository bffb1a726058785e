/- One round of ValueAsserts: a box is asserted to be a number, a truth, a text: that, or the panic that says what was wanted and what it is. -/
import Derived.Test.YtfcigknalnmhcaaDoorVCaught2
namespace Go.Proofs.YtfcigknalnmhcaaDoor
open Go.RowKit

theorem opens_iface {x : Value} {K n : Int} {s : ByteArray} {ok : Bool} (h : Opens x K n s ok) : IsIface x := by
  cases h <;> first | exact .inl rfl | exact .inr ⟨_, _, rfl⟩
theorem calm {f : FuncId} {x y : Value} {w : World} (h : Calls Tryd.prog f #[x] w fun e w' => e = .returned y ∧ w' = w) : Calls Tryd.prog f #[x] w fun e w' => e = .returned y ∧ Below w.heap.size w w' :=
  h.mono fun _ _ ⟨he, hw⟩ => ⟨he, hw ▸ Below.refl _ _⟩
/-- What 'proper' makes of a box. -/
theorem proper_of {x : Value} {K n : Int} {s : ByteArray} {ok : Bool} (h : Opens x K n s ok) (hs : s.size < 9223372036854775807) :
    ∃ x', (∀ w, Tabs w → Calls Tryd.prog 75 #[x] w fun e w' => e = .returned x' ∧ Below w.heap.size w w') ∧
      (x' = x ∧ (∀ t, x = .iface 9 (.string t) → checkB 3 0 t.data.toList = true) ∨ x' = .nilIface ∧ ∃ t, x = .iface 9 (.string t) ∧ checkB 3 0 t.data.toList = false) := by
  cases h with
  | nil => exact ⟨_, fun w _ => calm (proper_other .nilIface (.inl rfl) w), .inl ⟨rfl, fun t h => by cases h⟩⟩
  | num => exact ⟨_, fun w _ => calm (proper_other _ (.inr ⟨_, _, rfl, by decide⟩) w), .inl ⟨rfl, fun t h => by injection h with h1 h2; cases h2⟩⟩
  | truth => exact ⟨_, fun w _ => calm (proper_other _ (.inr ⟨_, _, rfl, by decide⟩) w), .inl ⟨rfl, fun t h => by injection h with h1 h2; cases h2⟩⟩
  | text =>
    cases hc : checkB 3 0 s.data.toList with
    | true => exact ⟨_, fun w hT => by have := proper_text s w hs hT; rwa [if_pos hc] at this, .inl ⟨rfl, fun t h => by injection h with h1 h2; injection h2 with h2; subst h2; exact hc⟩⟩
    | false => exact ⟨_, fun w hT => by have := proper_text s w hs hT; rwa [if_neg (by rw [hc]; decide)] at this, .inr ⟨rfl, s, rfl, hc⟩⟩
  | val => exact ⟨_, fun w _ => calm (proper_other _ (.inr ⟨_, _, rfl, by decide⟩) w), .inl ⟨rfl, fun t h => by injection h with h1 h2; cases h2⟩⟩
  | other u v h1 h2 h3 h4 => exact ⟨_, fun w _ => calm (proper_other _ (.inr ⟨_, _, rfl, h3⟩) w), .inl ⟨rfl, fun t h => by injection h with e1 e2; exact absurd e1 h3⟩⟩

theorem int_falls {x : Value} {K n : Int} {s : ByteArray} {ok : Bool} (h : Opens x K n s ok) (hs : s.size < 9223372036854775807) (hne : ∀ v, x ≠ .iface 2 v) (got : Int)
    (hk : ∀ w, Tabs w → Calls Tryd.prog 19 #[x] w fun e w' => e = .returned (.int .i64 got) ∧ Below w.heap.size w w') (w : World) (hT : Tabs w) :
    Calls Tryd.prog 25 #[x] w (Fell w 1 got) := by
  obtain ⟨x', hp, hx⟩ := proper_of h hs
  have hi := opens_iface h
  refine int_no x x' got w hi hT hp hk ?_
  rcases hx with ⟨rfl, -⟩ | ⟨rfl, -⟩
  · rcases hi with rfl | ⟨u, v, rfl⟩
    · exact fallN_nil
    · exact fallN u v (fun e => hne v (by rw [e]))
  · exact fallN_nil
theorem bool_falls {x : Value} {K n : Int} {s : ByteArray} {ok : Bool} (h : Opens x K n s ok) (hs : s.size < 9223372036854775807) (hne : ∀ v, x ≠ .iface 4 v) (got : Int)
    (hk : ∀ w, Tabs w → Calls Tryd.prog 19 #[x] w fun e w' => e = .returned (.int .i64 got) ∧ Below w.heap.size w w') (w : World) (hT : Tabs w) :
    Calls Tryd.prog 26 #[x] w (Fell w 2 got) := by
  obtain ⟨x', hp, hx⟩ := proper_of h hs
  have hi := opens_iface h
  refine bool_no x x' got w hi hT hp hk ?_
  rcases hx with ⟨rfl, -⟩ | ⟨rfl, -⟩
  · rcases hi with rfl | ⟨u, v, rfl⟩
    · exact fallB_nil
    · exact fallB u v (fun e => hne v (by rw [e]))
  · exact fallB_nil
theorem text_falls {x : Value} {K n : Int} {s : ByteArray} {ok : Bool} (h : Opens x K n s ok) (hs : s.size < 9223372036854775807) (hne : ∀ v, x = .iface 9 v → ∃ t, v = .string t ∧ checkB 3 0 t.data.toList = false) (got : Int)
    (hk : ∀ w, Tabs w → Calls Tryd.prog 19 #[x] w fun e w' => e = .returned (.int .i64 got) ∧ Below w.heap.size w w') (w : World) (hT : Tabs w) :
    Calls Tryd.prog 27 #[x] w (Fell w 3 got) := by
  obtain ⟨x', hp, hx⟩ := proper_of h hs
  have hi := opens_iface h
  refine text_no x x' got w hi hT hp hk ?_
  rcases hx with ⟨rfl, hh⟩ | ⟨rfl, -⟩
  · rcases hi with rfl | ⟨u, v, rfl⟩
    · exact fallS_nil
    · refine fallS u v (fun e => ?_)
      subst e
      obtain ⟨t, rfl, hc⟩ := hne v rfl
      rw [hh t rfl] at hc; cases hc
  · exact fallS_nil

abbrev Clo (T X V G : Nat) : Value := .func (.func 24) #[] #[.pointer (some ⟨T, 0, none⟩), .pointer (some ⟨X, 0, none⟩), .pointer (some ⟨V, 0, none⟩), .pointer (some ⟨G, 0, none⟩)]
/-- Its end where all is well, where it falls. -/
def OkEnd (w : World) (G : Nat) (e : Ending) (w' : World) : Prop := e = .returned (.tuple #[.agg #[.int .i64 0, .int .i64 0], .bool false]) ∧ Below w.heap.size (w.setCell ⟨G, 0, none⟩ (.bool true)) w'
def FellEnd (w : World) (t got : Int) (e : Ending) (w' : World) : Prop := e = .returned (.tuple #[.agg #[.int .i64 t, .int .i64 got], .bool true]) ∧ Below w.heap.size w w'

theorem round_yes {x : Value} {K m : Int} {s : ByteArray} (h : Is x K m s) (w : World) (T X V G : Nat) (t : Int) (ht : t = 1 ∨ t = 2 ∨ t = 3) (hC : Caps w T X V G t x K m s) (hT : Tabs w) :
    (K = t ∧ Calls Tryd.prog 23 #[Clo T X V G] w (OkEnd w G)) ∨ (¬ K = t ∧ Calls Tryd.prog 23 #[Clo T X V G] w (FellEnd w t K)) := by
  obtain ⟨b0, hcg⟩ := hC.cg
  have hG := lt_of_cell hcg
  have hi := opens_iface h.1
  have hk : ∀ w, Tabs w → Calls Tryd.prog 19 #[x] w fun e w' => e = .returned (.int .i64 K) ∧ Below w.heap.size w w' := fun w hT => kind_yes x K m s h w hT
  have hO := h.1
  rcases ht with rfl | rfl | rfl
  · by_cases hK : K = 1
    · refine .inl ⟨hK, caught_ok_asserts T X V G w hG fun w1 hb => ?_⟩
      refine closure_num T X V G x K m s w1 (hT.later hb) (hC.later hb) hi fun w hT => ?_
      subst hK
      generalize hok : true = ok at hO
      cases hO with
      | num => exact int_yes _ _ _ w hi hT (fun w _ => calm (proper_other _ (.inr ⟨_, _, rfl, by decide⟩) w)) (holdN _)
      | val => cases hok
    · refine .inr ⟨hK, caught_fell_asserts T X V G 1 K w fun w1 hb => ?_⟩
      refine closure_num_falls T X V G x K m s K w1 (hT.later hb) (hC.later hb) hi fun w hT => ?_
      refine int_falls h.1 h.2.2 (fun v e => ?_) K hk w hT
      subst e
      cases hO with
      | num => exact hK rfl
  · by_cases hK : K = 2
    · refine .inl ⟨hK, caught_ok_asserts T X V G w hG fun w1 hb => ?_⟩
      subst hK
      generalize hok : true = ok at hO
      cases hO with
      | truth c => exact closure_truth T X V G _ 2 c _ w1 (hT.later hb) (hC.later hb) hi fun w hT => bool_yes _ _ _ w hi hT (fun w _ => calm (proper_other _ (.inr ⟨_, _, rfl, by decide⟩) w)) (holdB _)
      | val => cases hok
    · refine .inr ⟨hK, caught_fell_asserts T X V G 2 K w fun w1 hb => ?_⟩
      refine closure_truth_falls T X V G x K m s K w1 (hT.later hb) (hC.later hb) hi fun w hT => ?_
      refine bool_falls h.1 h.2.2 (fun v e => ?_) K hk w hT
      subst e
      cases hO with
      | truth => exact hK rfl
  · by_cases hK : K = 3
    · refine .inl ⟨hK, caught_ok_asserts T X V G w hG fun w1 hb => ?_⟩
      refine closure_text T X V G x K m s w1 (hT.later hb) (hC.later hb) hi fun w hT => ?_
      subst hK
      have hc := h.2.1
      generalize hok : true = ok at hO
      cases hO with
      | text =>
        exact text_yes _ _ _ w hi hT (fun w hT => by have := proper_text s w h.2.2 hT; rwa [if_pos hc] at this) (holdS _)
      | val => cases hok
    · refine .inr ⟨hK, caught_fell_asserts T X V G 3 K w fun w1 hb => ?_⟩
      refine closure_text_falls T X V G x K m s K w1 (hT.later hb) (hC.later hb) hi fun w hT => ?_
      refine text_falls h.1 h.2.2 (fun v e => ?_) K hk w hT
      subst e
      cases hO with
      | text => exact absurd rfl hK

theorem round_no {x : Value} (h : IsNot x) (w : World) (T X V G : Nat) (t : Int) (ht : t = 1 ∨ t = 2 ∨ t = 3) (K m : Int) (s : ByteArray) (hC : Caps w T X V G t x K m s) (hT : Tabs w) :
    Calls Tryd.prog 23 #[Clo T X V G] w (FellEnd w t (-1)) := by
  have hk : ∀ w, Tabs w → Calls Tryd.prog 19 #[x] w fun e w' => e = .returned (.int .i64 (-1)) ∧ Below w.heap.size w w' := fun w hT => kind_no x h w hT
  obtain ⟨K0, n0, s0, ok, hO, hs, hbad⟩ := h
  have hi := opens_iface hO
  rcases ht with rfl | rfl | rfl
  · refine caught_fell_asserts T X V G 1 (-1) w fun w1 hb => ?_
    refine closure_num_falls T X V G x K m s (-1) w1 (hT.later hb) (hC.later hb) hi fun w hT => ?_
    refine int_falls hO hs (fun v e => ?_) (-1) hk w hT
    subst e
    cases hO with
    | num => rcases hbad with h | h <;> simp [checkB] at h
    | other _ _ h1 => exact h1 rfl
  · refine caught_fell_asserts T X V G 2 (-1) w fun w1 hb => ?_
    refine closure_truth_falls T X V G x K m s (-1) w1 (hT.later hb) (hC.later hb) hi fun w hT => ?_
    refine bool_falls hO hs (fun v e => ?_) (-1) hk w hT
    subst e
    cases hO with
    | truth c => rcases hbad with h | h <;> cases c <;> simp [checkB, b01] at h
    | other _ _ _ h2 => exact h2 rfl
  · refine caught_fell_asserts T X V G 3 (-1) w fun w1 hb => ?_
    refine closure_text_falls T X V G x K m s (-1) w1 (hT.later hb) (hC.later hb) hi fun w hT => ?_
    refine text_falls hO hs (fun v e => ?_) (-1) hk w hT
    subst e
    cases hO with
    | text => exact ⟨_, rfl, hbad.resolve_left (by simp)⟩
    | other _ _ _ _ h3 => exact absurd rfl h3
end Go.Proofs.YtfcigknalnmhcaaDoor
