/- What an expression comes to hangs on the values of its names alone; palaverlaw00.Values: values in new memory. -/
import Derived.Test.YtaaibciacipelaaGreatDoorHC
import Derived.Test.YtaaibciacipelaaGreatDoorMRNm
import Derived.Test.YtaaibciacipelaaGreatDoorGX
namespace Go.Proofs.YtaaibciacipelaaGreatDoor
open Go.RowKit

theorem nameV_congr {N : List ByteArray} {V V' : List Va} {s : ByteArray} (hl : V.length = V'.length) (h : ∀ i : Nat, N[i]? = some s → V[i]? = V'[i]?) : nameV N V s = nameV N V' s := by
  induction N generalizing V V' with
  | nil => rfl
  | cons n ns ih =>
    cases V with
    | nil =>
      cases V' with
      | nil => rfl
      | cons v' vs' => simp at hl
    | cons v vs =>
      cases V' with
      | nil => simp at hl
      | cons v' vs' =>
        rw [nameV, nameV]
        by_cases hn : n = s
        · rw [if_pos hn, if_pos hn]
          have h0 := h 0 (by simp [hn])
          simp at h0
          rw [h0]
        · rw [if_neg hn, if_neg hn]
          exact ih (by simpa using hl) (fun i hi => by have := h (i + 1) (by simpa using hi); simpa using this)
mutual
theorem evalE_congr {N : List ByteArray} {V V' : List Va} : ∀ (e : Ex), allB e = true → (∀ s ∈ nmE e, nameV N V s = nameV N V' s) → evalE N V e = evalE N V' e
  | .mk op n s ks, ha, h => by
    rw [evalE, evalE]
    rw [nmE] at h
    by_cases h4 : op = 4
    · rw [if_pos h4] at h
      rw [h _ (List.mem_singleton.2 rfl)]
      simp [h4]
    · rw [if_neg h4] at h
      rw [if_neg h4, if_neg h4]
      rw [allB] at ha
      simp only [Bool.and_eq_true] at ha
      by_cases h22 : op = 22
      · have hp := ha.1
        subst h22
        unfold partB Ex.op Ex.num Ex.str Ex.kids hasB at hp
        dsimp only at hp
        simp only [Bool.and_eq_true] at hp
        have har := of_decide_eq_true hp.1.1
        have hhs := hp.2
        match ks, har, hhs, h with
        | [.mk ko kn kt kk], _, hhs, h =>
          have hko : ko = 4 := by simpa [Ex.op] using hhs
          subst hko
          rw [nmL, nmL, List.append_nil, nmE, if_pos rfl] at h
          have := h _ (List.mem_singleton.2 rfl)
          unfold strAt Ex.str
          dsimp only
          rw [this]
          simp
        | [], har, _, _ => exact absurd har (by decide)
        | _ :: _ :: _, har, _, _ => simp [arity] at har
      · rw [evalL_congr ks ha.2 h]
        simp [h22]
theorem evalL_congr {N : List ByteArray} {V V' : List Va} : ∀ (es : List Ex), allBL es = true → (∀ s ∈ nmL es, nameV N V s = nameV N V' s) → evalL N V es = evalL N V' es
  | [], _, _ => by rw [evalL, evalL]
  | e :: es, ha, h => by
    rw [allBL] at ha
    simp only [Bool.and_eq_true] at ha
    rw [evalL, evalL, evalE_congr e ha.1 (fun s hs => h s (by rw [nmL]; exact List.mem_append_left _ hs)), evalL_congr es ha.2 (fun s hs => h s (by rw [nmL]; exact List.mem_append_right _ hs))]
end
theorem evA_congr {N : List ByteArray} {V V' : List Va} {e : Ex} (hl : V.length = V'.length) (h : ∀ (s : ByteArray) (i : Nat), s ∈ nmE e → N[i]? = some s → V[i]? = V'[i]?) : evA N V e = evA N V' e := by
  unfold evA
  by_cases hc : chkB e = true
  · rw [if_pos hc, if_pos hc]
    exact evalE_congr e (deep_fits hc) (fun s hs => nameV_congr hl (fun i hi => h s i hs hi))
  · rw [if_neg hc, if_neg hc]
theorem names_any (e : Ex) (v : Value) (S : Nat → Prop) (w : World) (hn : nodes e ≤ 1000) (hv : ExIn w S e v) : Calls Tryz.prog 12 #[v] w (NamesEnd w e) :=
  names_all (nodes e) e (Nat.le_refl _) hn v S w hv

/-- The cells of values in a row. -/
def vaCells : List Va → List Value
  | [] => []
  | v :: vs => .int .i64 v.k :: .int .i64 v.n :: .string ⟨v.s.toArray⟩ :: vaCells vs
theorem vaCells_len : ∀ V : List Va, (vaCells V).length = V.length * 3
  | [] => rfl
  | v :: vs => by rw [vaCells]; simp [vaCells_len vs]; omega
theorem vaCells_one : ∀ (V : List Va), ∀ u ∈ vaCells V, u.oneCell' = true
  | [], u, h => by rw [vaCells] at h; cases h
  | v :: vs, u, h => by
    rw [vaCells] at h
    simp only [List.mem_cons] at h
    rcases h with rfl | rfl | rfl | h
    · rfl
    · rfl
    · rfl
    · exact vaCells_one vs u h
theorem vaCells_at : ∀ {V : List Va} {k : Nat} {v : Va}, V[k]? = some v → (vaCells V)[k * 3]? = some (.int .i64 v.k) ∧ (vaCells V)[k * 3 + 1]? = some (.int .i64 v.n) ∧ (vaCells V)[k * 3 + 2]? = some (.string ⟨v.s.toArray⟩)
  | [], k, v, h => by simp at h
  | x :: xs, 0, v, h => by
    obtain rfl : x = v := by simpa using h
    rw [vaCells]
    exact ⟨rfl, rfl, rfl⟩
  | x :: xs, k + 1, v, h => by
    have ih := vaCells_at (V := xs) (k := k) (v := v) (by simpa using h)
    rw [vaCells, show (k + 1) * 3 = k * 3 + 3 by omega]
    exact ⟨by simpa using ih.1, by simpa using ih.2.1, by simpa using ih.2.2⟩
theorem vaCells_of : ∀ {V : List Va} {j : Nat} {u : Value}, (vaCells V)[j]? = some u → ∃ k v, V[k]? = some v ∧ ((j = k * 3 ∧ u = .int .i64 v.k) ∨ (j = k * 3 + 1 ∧ u = .int .i64 v.n) ∨ (j = k * 3 + 2 ∧ u = .string ⟨v.s.toArray⟩))
  | [], j, u, h => by rw [vaCells] at h; simp at h
  | x :: xs, 0, u, h => ⟨0, x, rfl, .inl ⟨rfl, by rw [vaCells] at h; simpa using h.symm⟩⟩
  | x :: xs, 1, u, h => ⟨0, x, rfl, .inr (.inl ⟨rfl, by rw [vaCells] at h; simpa using h.symm⟩)⟩
  | x :: xs, 2, u, h => ⟨0, x, rfl, .inr (.inr ⟨rfl, by rw [vaCells] at h; simpa using h.symm⟩)⟩
  | x :: xs, j + 3, u, h => by
    rw [vaCells] at h
    obtain ⟨k, v, hk, hj⟩ := vaCells_of (V := xs) (j := j) (u := u) (by simpa using h)
    refine ⟨k + 1, v, by simpa using hk, ?_⟩
    rcases hj with ⟨a, b⟩ | ⟨a, b⟩ | ⟨a, b⟩
    · exact .inl ⟨by omega, b⟩
    · exact .inr (.inl ⟨by omega, b⟩)
    · exact .inr (.inr ⟨by omega, b⟩)
/-- Values in a row of the call's own. -/
def OV (w : World) (n₀ : Nat) (B : Option Addr) (V : List Va) : Prop := 0 < V.length → ∃ g, B = some ⟨g, 0, none⟩ ∧ n₀ ≤ g ∧ NB w g ∧ ∀ (k : Nat) v, V[k]? = some v → w.cell? ⟨g, k * 3, none⟩ = some (.int .i64 v.k) ∧ w.cell? ⟨g, k * 3 + 1, none⟩ = some (.int .i64 v.n) ∧ w.cell? ⟨g, k * 3 + 2, none⟩ = some (.string ⟨v.s.toArray⟩)
theorem OV.vs {w : World} {n₀ : Nat} {B : Option Addr} {V : List Va} (h : OV w n₀ B V) : Vs w B V := fun h0 => by
  obtain ⟨g, rfl, -, -, hc⟩ := h h0
  exact ⟨g, 0, rfl, fun k v hk => by rw [Nat.zero_add]; exact hc k v hk⟩
theorem OV.later {w w' : World} {n₀ : Nat} {B : Option Addr} {V : List Va} (h : OV w n₀ B V) (hb : Below w.heap.size w w') : OV w' n₀ B V := fun h0 => by
  obtain ⟨g, rfl, hg, hn, hc⟩ := h h0
  refine ⟨g, rfl, hg, hn.same (hb.block _ hn.lt), fun k v hk => ?_⟩
  obtain ⟨c0, c1, c2⟩ := hc k v hk
  exact ⟨(hb.cell (p := ⟨g, k * 3, none⟩) hn.lt).trans c0, (hb.cell (p := ⟨g, k * 3 + 1, none⟩) hn.lt).trans c1, (hb.cell (p := ⟨g, k * 3 + 2, none⟩) hn.lt).trans c2⟩
/-- One of them is set. -/
def setVa (w : World) (g i : Nat) (v : Va) : World := ((w.setCell ⟨g, i * 3, none⟩ (.int .i64 v.k)).setCell ⟨g, i * 3 + 1, none⟩ (.int .i64 v.n)).setCell ⟨g, i * 3 + 2, none⟩ (.string ⟨v.s.toArray⟩)
theorem OV.set {w : World} {n₀ g : Nat} {V : List Va} (h : OV w n₀ (some ⟨g, 0, none⟩) V) {i : Nat} (hi : i < V.length) (x : Va) : OV (setVa w g i x) n₀ (some ⟨g, 0, none⟩) (V.set i x) := fun h0 => by
  obtain ⟨g', e, hg, hn, hc⟩ := h (by omega)
  injection e with e
  injection e with e
  subst e
  refine ⟨g, rfl, hg, ((hn.set _ _ _).set _ _ _).set _ _ _, fun k v hk => ?_⟩
  have ne : ∀ {a b : Nat}, a ≠ b → (⟨g, a, none⟩ : Addr) ≠ ⟨g, b, none⟩ := fun hab e => by injection e with _ e; exact hab e
  unfold setVa
  by_cases hki : k = i
  · subst hki
    obtain rfl : x = v := by rw [List.getElem?_set_self hi] at hk; exact Option.some.inj hk
    obtain ⟨v0, hv0⟩ : ∃ v0, V[k]? = some v0 := ⟨_, List.getElem?_eq_getElem hi⟩
    obtain ⟨c0, c1, c2⟩ := hc k v0 hv0
    refine ⟨?_, ?_, ?_⟩
    · rw [World.cell?_setCell_other _ _ _ _ (ne (by omega)), World.cell?_setCell_other _ _ _ _ (ne (by omega))]
      exact World.cell?_setCell_same _ _ _ c0
    · rw [World.cell?_setCell_other _ _ _ _ (ne (by omega))]
      exact World.cell?_setCell_same _ _ _ (by rw [World.cell?_setCell_other _ _ _ _ (ne (by omega))]; exact c1)
    · exact World.cell?_setCell_same _ _ _ (by rw [World.cell?_setCell_other _ _ _ _ (ne (by omega)), World.cell?_setCell_other _ _ _ _ (ne (by omega))]; exact c2)
  · rw [List.getElem?_set_ne (Ne.symm hki)] at hk
    obtain ⟨c0, c1, c2⟩ := hc k v hk
    refine ⟨?_, ?_, ?_⟩
    · rw [World.cell?_setCell_other _ _ _ _ (ne (by omega)), World.cell?_setCell_other _ _ _ _ (ne (by omega)), World.cell?_setCell_other _ _ _ _ (ne (by omega))]; exact c0
    · rw [World.cell?_setCell_other _ _ _ _ (ne (by omega)), World.cell?_setCell_other _ _ _ _ (ne (by omega)), World.cell?_setCell_other _ _ _ _ (ne (by omega))]; exact c1
    · rw [World.cell?_setCell_other _ _ _ _ (ne (by omega)), World.cell?_setCell_other _ _ _ _ (ne (by omega)), World.cell?_setCell_other _ _ _ _ (ne (by omega))]; exact c2
/-- How Values ends. -/
def ValsEnd (w : World) (V : List Va) (e : Ending) (w' : World) : Prop := ∃ B cap, e = .returned (.slice B V.length cap) ∧ OV w' w.heap.size B V ∧ Below w.heap.size w w'
set_option maxHeartbeats 400000 in
set_option maxRecDepth 100000 in
theorem vals_any (B : Option Addr) (V : List Va) (cap : Nat) (w : World) (hl : V.length ≤ 1000) (hV : Vs w B V) (hB : B = none → cap = 0) :
    Calls Tryz.prog 24 #[.slice B V.length cap] w (ValsEnd w V) := by
  obtain ⟨i0, hi, hz0, hz1, hz2⟩ := info_parts (show (Tryz.prog.info? 41).map (fun i => (i.zero, i.size, i.bytes)) = some (some (.agg #[.int .i64 0, .int .i64 0, .string ⟨#[]⟩]), 3, 32) by kernel_rfl)
  cases B with
  | none =>
    obtain rfl := hB rfl
    have h0 : V = [] := by
      cases V with
      | nil => rfl
      | cons c V => obtain ⟨g, o, e, _⟩ := hV (by simp); cases e
    subst h0
    go_enter Tryz.func24, Tryz.ntmps24
    go_wp2_with (at_builtin; refine wpList_append_own_none rfl _ _ _ rfl w.heap.size 41 i0 3 Tryz.underlying37 hi (.slice none 0 0) 0 [] rfl (World.ownsRow_nil _ _ _ _) rfl ?_)
    go_ret
    exact ⟨none, 0, rfl, fun h0 => absurd h0 (by simp), Below.refl _ _⟩
  | some ad =>
    have hc : ∀ j u, (vaCells V)[j]? = some u → w.cell? (ad.add j) = some u := fun j u hu => by
      obtain ⟨k, v, hk, hj⟩ := vaCells_of hu
      obtain ⟨g, o, e, hvc⟩ := hV (by have := (List.getElem?_eq_some_iff.1 hk).1; omega)
      injection e with e
      subst e
      obtain ⟨c0, c1, c2⟩ := hvc k v hk
      rw [Lib.add_plain]
      rcases hj with ⟨rfl, rfl⟩ | ⟨rfl, rfl⟩ | ⟨rfl, rfl⟩
      · exact c0
      · rw [← Nat.add_assoc]; exact c1
      · rw [← Nat.add_assoc]; exact c2
    have HC := Lib.hid hc
    have HO := Lib.hid (vaCells_one V)
    have HL := Lib.hid (vaCells_len V)
    clear hc hV hB
    go_enter Tryz.func24, Tryz.ntmps24
    go_wp2_with (at_builtin; refine wpList_append_own _ rfl _ _ _ rfl w.heap.size 41 i0 _ 3 32 Tryz.underlying37 hi hz0 hz1 hz2 rfl (by omega) (.slice none 0 0) 0 [] rfl (World.ownsRow_nil _ _ _ _) ad V.length cap (vaCells V) rfl HL.out HC.out HO.out ?c3 ?c4 (Nat.le_refl _) ?_)
    case c3 => unfold maxLen; omega
    case c4 => omega
    intro v1 w1 hown1 hg1 _
    have hb1 := below_grown (Below.refl w.heap.size w) (Nat.le_refl _) hg1 (fun b hb => by cases hb)
    have HR : Hid (ValsEnd w V (.returned v1) w1) := Lib.hid (by
      rcases hown1.2 with ⟨rfl, hn⟩ | ⟨g, c, cur, rfl, hbg, hg, hnc, hcm, rest⟩
      · exact ⟨none, 0, by rw [hn], fun h0 => absurd h0 (by omega), hb1⟩
      · refine ⟨some ⟨g, 0, none⟩, c, rfl, fun h0 => ⟨g, rfl, hbg, ⟨cur, _, hg⟩, fun k v hk => ?_⟩, hb1⟩
        have hkl := (List.getElem?_eq_some_iff.1 hk).1
        obtain ⟨c0, c1, c2⟩ := vaCells_at hk
        exact ⟨(hown1.cellAt _ (by omega)).trans c0, (hown1.cellAt _ (by omega)).trans c1, (hown1.cellAt _ (by omega)).trans c2⟩)
    clear hown1 hg1 hb1
    go_wp2_with fail
    exact bodyPost_ret (v := v1) (by simp [results, Tryz.results24, go_sem]) rfl HR.out
end Go.Proofs.YtaaibciacipelaaGreatDoor
