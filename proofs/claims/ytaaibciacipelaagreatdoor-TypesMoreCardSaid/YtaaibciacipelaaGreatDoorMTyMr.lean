/- TypesMore: what its drawn regions leave; names that an expression does not have turn nothing; the document's copies of lists, told a little more. -/
import Derived.Test.YtaaibciacipelaaGreatDoorMAppU
import Derived.Test.YtaaibciacipelaaGreatDoorMRNm
import Derived.Test.YtaaibciacipelaaGreatDoorMTyOf
namespace Go.Proofs.YtaaibciacipelaaGreatDoor
open Go.RowKit

mutual
theorem typE_congr {N N' : List ByteArray} {Z Z' : List Int} : ∀ (e : Ex), (∀ s ∈ nmE e, findT N Z s = findT N' Z' s) → typE N Z e = typE N' Z' e
  | .mk op n s ks, h => by
    rw [typE, typE]
    rw [nmE] at h
    by_cases h4 : op = 4
    · rw [if_pos h4] at h
      rw [if_pos h4, if_pos h4, h _ (List.mem_singleton.2 rfl)]
    · rw [if_neg h4] at h
      rw [if_neg h4, if_neg h4, typL_congr ks h]
theorem typL_congr {N N' : List ByteArray} {Z Z' : List Int} : ∀ (es : List Ex), (∀ s ∈ nmL es, findT N Z s = findT N' Z' s) → typL N Z es = typL N' Z' es
  | [], _ => by rw [typL, typL]
  | e :: es, h => by
    rw [typL, typL, typE_congr e (fun s hs => h s (by rw [nmL]; exact List.mem_append_left _ hs)), typL_congr es (fun s hs => h s (by rw [nmL]; exact List.mem_append_right _ hs))]
end
theorem of_congr {N N' : List ByteArray} {Z Z' : List Int} {e : Ex} (h : ∀ s ∈ nmE e, findT N Z s = findT N' Z' s) : ofE N Z e = ofE N' Z' e := by
  unfold ofE
  rw [typE_congr e h]
theorem of_cons {N : List ByteArray} {Z : List Int} {e : Ex} {more : ByteArray} (t : Int) (h : more ∉ nmE e) : ofE (more :: N) (t :: Z) e = ofE N Z e :=
  of_congr fun s hs => by
    rw [findT, if_neg]
    intro he
    subst he
    exact h hs
theorem findT_snoc {more s : ByteArray} (t : Int) (h : more ≠ s) : ∀ (N : List ByteArray) (Z : List Int), N.length = Z.length → findT (N ++ [more]) (Z ++ [t]) s = findT N Z s
  | [], [], _ => by
    show findT [more] [t] s = findT [] [] s
    conv => lhs; rw [findT, if_neg h]
  | n :: N, z :: Z, hl => by
    rw [List.cons_append, List.cons_append, findT, findT, findT_snoc t h N Z (by simpa using hl)]
  | [], _ :: _, hl => by simp at hl
  | _ :: _, [], hl => by simp at hl
theorem of_snoc {N : List ByteArray} {Z : List Int} {e : Ex} {more : ByteArray} (t : Int) (hl : N.length = Z.length) (h : more ∉ nmE e) : ofE (N ++ [more]) (Z ++ [t]) e = ofE N Z e :=
  of_congr fun s hs => findT_snoc t (fun he => by subst he; exact h hs) N Z hl
theorem own_base {w : World} {B n₀ n size : Nat} {e : TypeId} {v : Value} {xs : List Value} (h : w.ownsRow n₀ e size v n xs) (hB : B ≤ n₀) : w.ownsRow B e size v n xs := by
  refine ⟨h.1, ?_⟩
  rcases h.2 with h' | ⟨g, cap, cur, hv, hg0, rest⟩
  · exact .inl h'
  · exact .inr ⟨g, cap, cur, hv, Nat.le_trans hB hg0, rest⟩
/-- How a list in new memory ends. -/
def Own2 {α : Type} (f : α → Value) (t : TypeId) (w : World) (l : List α) (e : Ending) (w' : World) : Prop :=
  ∃ A cap, e = .returned (.slice A l.length cap) ∧ w'.ownsRow w.heap.size t 1 (.slice A l.length cap) l.length (l.map f) ∧ (l = [] → (Value.slice A l.length cap) = .slice none 0 0) ∧ Below w.heap.size w w'
theorem own2_of {α : Type} {f : α → Value} (d : α) {t : TypeId} {w w1 : World} {v : Value} {l : List α} (h : w1.ownsRow w.heap.size t 1 v l.length (l.map f)) (hn : l = [] → v = .slice none 0 0) (hb : Below w.heap.size w w1) : Own2 f t w l (.returned v) w1 := by
  obtain ⟨A, cap, rfl, -⟩ := els_own (d := d) h
  exact ⟨A, cap, rfl, h, hn, hb⟩
set_option maxHeartbeats 400000 in
theorem texts2_any (A : Option Addr) (L : List ByteArray) (cap : Nat) (w : World) (hl : L.length ≤ 1000) (hB : Ts w A L) (hcap : A = none → cap = 0) :
    Calls Tryz.prog 14 #[.slice A L.length cap] w (Own2 (fun s => .string s) 9 w L) := by
  obtain ⟨i0, hi, hz0, hz1, hz2⟩ := info_parts (show (Tryz.prog.info? 9).map (fun i => (i.zero, i.size, i.bytes)) = some (some (.string ⟨#[]⟩), 1, 16) by kernel_rfl)
  cases A with
  | none =>
    obtain rfl := hcap rfl
    have h0 : L = [] := by
      cases L with
      | nil => rfl
      | cons c L => obtain ⟨b, off, e, _⟩ := hB (by simp); cases e
    subst h0
    go_enter Tryz.func14, Tryz.ntmps14
    go_wp2_with (at_builtin; refine wpList_append_own_none rfl _ _ _ rfl w.heap.size 9 i0 1 Tryz.underlying25 hi (.slice none 0 0) 0 [] rfl (World.ownsRow_nil _ _ _ _) rfl ?_)
    go_ret
    exact own2_of (l := ([] : List ByteArray)) ByteArray.empty (World.ownsRow_nil _ _ _ _) (fun _ => rfl) (Below.refl _ _)
  | some ad =>
    have hc := els_cells hB
    have ho : ∀ u ∈ L.map (fun s => Value.string s), u.oneCell' = true := fun u hu => by obtain ⟨x, _, rfl⟩ := List.mem_map.1 hu; rfl
    have HC := Lib.hid hc
    have HO := Lib.hid ho
    clear hc ho hB hcap
    go_enter Tryz.func14, Tryz.ntmps14
    go_wp2_with (at_builtin; refine wpList_append_own _ rfl _ _ _ rfl w.heap.size 9 i0 _ 1 16 Tryz.underlying25 hi hz0 hz1 hz2 rfl (by omega) (.slice none 0 0) 0 [] rfl (World.ownsRow_nil _ _ _ _) ad L.length cap (L.map fun s => Value.string s) rfl (by rw [List.length_map]; omega) HC.out HO.out ?c3 ?c4 (Nat.le_refl _) ?_)
    case c3 => unfold maxLen; omega
    case c4 => omega
    intro v1 w1 hown1 hg1 hnil1
    have HR : Hid (Own2 (fun s => .string s) 9 w L (.returned v1) w1) := Lib.hid (own2_of ByteArray.empty (by simpa using hown1) (fun h0 => hnil1.2 (by simp [h0])) (below_grown (Below.refl _ _) (Nat.le_refl _) hg1 (fun b hb => by cases hb)))
    clear hown1 hg1 hnil1
    go_wp2_with fail
    exact bodyPost_ret (v := v1) (by simp [results, Tryz.results14, go_sem]) rfl HR.out
set_option maxHeartbeats 400000 in
theorem ints2_any (A : Option Addr) (L : List Int) (cap : Nat) (w : World) (hl : L.length ≤ 1000) (hB : Is w A L) (hcap : A = none → cap = 0) :
    Calls Tryz.prog 15 #[.slice A L.length cap] w (Own2 (fun z => .int .i64 z) 3 w L) := by
  obtain ⟨i0, hi, hz0, hz1, hz2⟩ := info_parts (show (Tryz.prog.info? 3).map (fun i => (i.zero, i.size, i.bytes)) = some (some (.int .i64 0), 1, 8) by kernel_rfl)
  cases A with
  | none =>
    obtain rfl := hcap rfl
    have h0 : L = [] := by
      cases L with
      | nil => rfl
      | cons c L => obtain ⟨b, off, e, _⟩ := hB (by simp); cases e
    subst h0
    go_enter Tryz.func15, Tryz.ntmps15
    go_wp2_with (at_builtin; refine wpList_append_own_none rfl _ _ _ rfl w.heap.size 3 i0 1 Tryz.underlying26 hi (.slice none 0 0) 0 [] rfl (World.ownsRow_nil _ _ _ _) rfl ?_)
    go_ret
    exact own2_of (l := ([] : List Int)) 0 (World.ownsRow_nil _ _ _ _) (fun _ => rfl) (Below.refl _ _)
  | some ad =>
    have hc := els_cells hB
    have ho : ∀ u ∈ L.map (fun z => Value.int .i64 z), u.oneCell' = true := fun u hu => by obtain ⟨x, _, rfl⟩ := List.mem_map.1 hu; rfl
    have HC := Lib.hid hc
    have HO := Lib.hid ho
    clear hc ho hB hcap
    go_enter Tryz.func15, Tryz.ntmps15
    go_wp2_with (at_builtin; refine wpList_append_own _ rfl _ _ _ rfl w.heap.size 3 i0 _ 1 8 Tryz.underlying26 hi hz0 hz1 hz2 rfl (by omega) (.slice none 0 0) 0 [] rfl (World.ownsRow_nil _ _ _ _) ad L.length cap (L.map fun z => Value.int .i64 z) rfl (by rw [List.length_map]; omega) HC.out HO.out ?c3 ?c4 (Nat.le_refl _) ?_)
    case c3 => unfold maxLen; omega
    case c4 => omega
    intro v1 w1 hown1 hg1 hnil1
    have HR : Hid (Own2 (fun z => .int .i64 z) 3 w L (.returned v1) w1) := Lib.hid (own2_of 0 (by simpa using hown1) (fun h0 => hnil1.2 (by simp [h0])) (below_grown (Below.refl _ _) (Nat.le_refl _) hg1 (fun b hb => by cases hb)))
    clear hown1 hg1 hnil1
    go_wp2_with fail
    exact bodyPost_ret (v := v1) (by simp [results, Tryz.results15, go_sem]) rfl HR.out
section
variable (V0 : Value) (more : ByteArray) (t : Int) (A : Option Addr) (L : List ByteArray) (cA : Nat) (C : Option Addr) (Z : List Int) (cC : Nat) (T0 T1 : Int)
/-- What each operation of the first one leaves: the name ahead. -/
def TMa (j : Nat) (v : Value) (w : World) : Prop :=
  match j with
  | 0 => v = V0
  | 1 => v = .string more
  | 2 => ∃ g, v = .slice (some ⟨g, 0, none⟩) 1 1 ∧ w.heap[g]? = some (.cells #[.string more] 9 (0, 0))
  | 3 => v = .slice A L.length cA
  | 4 => ∃ ao c, v = .slice ao (L.length + 1) c ∧ Ts w ao (more :: L)
  | 5 => v = .int .i64 t
  | 6 => ∃ g, v = .slice (some ⟨g, 0, none⟩) 1 1 ∧ w.heap[g]? = some (.cells #[.int .i64 t] 3 (0, 0))
  | 7 => v = .slice C Z.length cC
  | 8 => ∃ ao c, v = .slice ao (Z.length + 1) c ∧ Is w ao (t :: Z)
  | 9 => v = .tuple #[.int .i64 T0, .int .i64 T1]
  | 10 => v = .tuple #[.int .i64 T0, .int .i64 T1]
  | 11 => v = .int .i64 T0
  | 12 => v = .int .i64 T1
  | 13 => v = .int .i64 T0
  | 14 => v = .int .i64 T1
  | _ => True
theorem TMa.keep : ∀ (j : Nat) (v : Value) (w w' : World), Below w.heap.size w w' → TMa V0 more t A L cA C Z cC T0 T1 j v w → TMa V0 more t A L cA C Z cC T0 T1 j v w'
  | 0, _, _, _, _, h => h
  | 1, _, _, _, _, h => h
  | 2, _, _, _, hb, ⟨g, e, h⟩ => ⟨g, e, (hb.block g (Array.getElem?_eq_some_iff.1 h).1).trans h⟩
  | 3, _, _, _, _, h => h
  | 4, _, _, _, hb, ⟨ao, c, e, h⟩ => ⟨ao, c, e, h.below hb⟩
  | 5, _, _, _, _, h => h
  | 6, _, _, _, hb, ⟨g, e, h⟩ => ⟨g, e, (hb.block g (Array.getElem?_eq_some_iff.1 h).1).trans h⟩
  | 7, _, _, _, _, h => h
  | 8, _, _, _, hb, ⟨ao, c, e, h⟩ => ⟨ao, c, e, h.below hb⟩
  | 9, _, _, _, _, h => h
  | 10, _, _, _, _, h => h
  | 11, _, _, _, _, h => h
  | 12, _, _, _, _, h => h
  | 13, _, _, _, _, h => h
  | 14, _, _, _, _, h => h
  | _ + 15, _, _, _, _, _ => trivial
/-- The second one: the name behind. -/
def TMb (B : Nat) (j : Nat) (v : Value) (w : World) : Prop :=
  match j with
  | 0 => v = V0
  | 1 => v = .slice A L.length cA
  | 2 => ∃ ao c, v = .slice ao L.length c ∧ w.ownsRow B 9 1 v L.length (L.map fun s => .string s) ∧ (L = [] → v = .slice none 0 0)
  | 3 => v = .string more
  | 4 => ∃ g, v = .slice (some ⟨g, 0, none⟩) 1 1 ∧ w.heap[g]? = some (.cells #[.string more] 9 (0, 0))
  | 5 => ∃ ao c, v = .slice ao (L.length + 1) c ∧ RowT (fun s => .string s) w 9 ao (L ++ [more])
  | 6 => v = .slice C Z.length cC
  | 7 => ∃ ao c, v = .slice ao Z.length c ∧ w.ownsRow B 3 1 v Z.length (Z.map fun z => .int .i64 z) ∧ (Z = [] → v = .slice none 0 0)
  | 8 => v = .int .i64 t
  | 9 => ∃ g, v = .slice (some ⟨g, 0, none⟩) 1 1 ∧ w.heap[g]? = some (.cells #[.int .i64 t] 3 (0, 0))
  | 10 => ∃ ao c, v = .slice ao (Z.length + 1) c ∧ RowT (fun z => .int .i64 z) w 3 ao (Z ++ [t])
  | 11 => v = .tuple #[.int .i64 T0, .int .i64 T1]
  | 12 => v = .tuple #[.int .i64 T0, .int .i64 T1]
  | 13 => v = .int .i64 T0
  | 14 => v = .int .i64 T1
  | 15 => v = .int .i64 T0
  | 16 => v = .int .i64 T1
  | _ => True
theorem TMb.keep (B : Nat) : ∀ (j : Nat) (v : Value) (w w' : World), Below w.heap.size w w' → TMb V0 more t A L cA C Z cC T0 T1 B j v w → TMb V0 more t A L cA C Z cC T0 T1 B j v w'
  | 0, _, _, _, _, h => h
  | 1, _, _, _, _, h => h
  | 2, _, _, _, hb, ⟨ao, c, e, h, hn⟩ => ⟨ao, c, e, own_keeps h hb, hn⟩
  | 3, _, _, _, _, h => h
  | 4, _, _, _, hb, ⟨g, e, h⟩ => ⟨g, e, (hb.block g (Array.getElem?_eq_some_iff.1 h).1).trans h⟩
  | 5, _, _, _, hb, ⟨ao, c, e, h⟩ => ⟨ao, c, e, h.later hb⟩
  | 6, _, _, _, _, h => h
  | 7, _, _, _, hb, ⟨ao, c, e, h, hn⟩ => ⟨ao, c, e, own_keeps h hb, hn⟩
  | 8, _, _, _, _, h => h
  | 9, _, _, _, hb, ⟨g, e, h⟩ => ⟨g, e, (hb.block g (Array.getElem?_eq_some_iff.1 h).1).trans h⟩
  | 10, _, _, _, hb, ⟨ao, c, e, h⟩ => ⟨ao, c, e, h.later hb⟩
  | 11, _, _, _, _, h => h
  | 12, _, _, _, _, h => h
  | 13, _, _, _, _, h => h
  | 14, _, _, _, _, h => h
  | 15, _, _, _, _, h => h
  | 16, _, _, _, _, h => h
  | _ + 17, _, _, _, _, _ => trivial
/-- Which one uses up which. -/
def useM (i j : Nat) : Bool := (i == 5 && j == 2) || (i == 10 && j == 7)
theorem TMb.strs (B : Nat) : ∀ (j : Nat) (v : Value) (w w' : World), Upd w w' B 9 → useM 5 j = false → TMb V0 more t A L cA C Z cC T0 T1 B j v w → (j = 5 → False) → TMb V0 more t A L cA C Z cC T0 T1 B j v w'
  | 0, _, _, _, _, _, h, _ => h
  | 1, _, _, _, _, _, h, _ => h
  | 2, _, _, _, _, hu, _, _ => absurd hu (by decide)
  | 3, _, _, _, _, _, h, _ => h
  | 4, _, _, _, hb, _, ⟨g, e, h⟩, _ => ⟨g, e, hb.one h⟩
  | 5, _, _, _, _, _, _, h5 => (h5 rfl).elim
  | 6, _, _, _, _, _, h, _ => h
  | 7, _, _, _, hb, _, ⟨ao, c, e, h, hn⟩, _ => ⟨ao, c, e, own_upd h hb (by decide), hn⟩
  | 8, _, _, _, _, _, h, _ => h
  | 9, _, _, _, hb, _, ⟨g, e, h⟩, _ => ⟨g, e, hb.one h⟩
  | 10, _, _, _, hb, _, ⟨ao, c, e, h⟩, _ => ⟨ao, c, e, h.upd hb (by decide)⟩
  | 11, _, _, _, _, _, h, _ => h
  | 12, _, _, _, _, _, h, _ => h
  | 13, _, _, _, _, _, h, _ => h
  | 14, _, _, _, _, _, h, _ => h
  | 15, _, _, _, _, _, h, _ => h
  | 16, _, _, _, _, _, h, _ => h
  | _ + 17, _, _, _, _, _, _, _ => trivial
theorem TMb.nums (B : Nat) : ∀ (j : Nat) (v : Value) (w w' : World), Upd w w' B 3 → useM 10 j = false → TMb V0 more t A L cA C Z cC T0 T1 B j v w → (j = 10 → False) → TMb V0 more t A L cA C Z cC T0 T1 B j v w'
  | 0, _, _, _, _, _, h, _ => h
  | 1, _, _, _, _, _, h, _ => h
  | 2, _, _, _, hb, _, ⟨ao, c, e, h, hn⟩, _ => ⟨ao, c, e, own_upd h hb (by decide), hn⟩
  | 3, _, _, _, _, _, h, _ => h
  | 4, _, _, _, hb, _, ⟨g, e, h⟩, _ => ⟨g, e, hb.one h⟩
  | 5, _, _, _, hb, _, ⟨ao, c, e, h⟩, _ => ⟨ao, c, e, h.upd hb (by decide)⟩
  | 6, _, _, _, _, _, h, _ => h
  | 7, _, _, _, _, hu, _, _ => absurd hu (by decide)
  | 8, _, _, _, _, _, h, _ => h
  | 9, _, _, _, hb, _, ⟨g, e, h⟩, _ => ⟨g, e, hb.one h⟩
  | 10, _, _, _, _, _, _, h5 => (h5 rfl).elim
  | 11, _, _, _, _, _, h, _ => h
  | 12, _, _, _, _, _, h, _ => h
  | 13, _, _, _, _, _, h, _ => h
  | 14, _, _, _, _, _, h, _ => h
  | 15, _, _, _, _, _, h, _ => h
  | 16, _, _, _, _, _, h, _ => h
  | _ + 17, _, _, _, _, _, _, _ => trivial
end
end Go.Proofs.YtaaibciacipelaaGreatDoor
