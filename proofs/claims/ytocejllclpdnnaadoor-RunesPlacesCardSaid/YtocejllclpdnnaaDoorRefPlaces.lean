/- The contracts of the document's own At and Back. -/
import Derived.Test.YtocejllclpdnnaaDoorRefSimple
import Derived.Test.YtocejllclpdnnaaDoorAt
import Derived.Test.YtocejllclpdnnaaDoorBack
import Derived.Deep.QuietTactic
import Derived.BigQuiet
import Derived.IntWalk
namespace Go.Proofs.YtocejllclpdnnaaDoor
open Go.RowKit

/-- Where a piece begins, At tells it. -/
theorem at_hit (l : List UInt8) : ∀ k x, (pcs l)[k]? = some x → atL l (flat ((pcs l).take k)).length = some (x.1, x.2.length) := by
  induction l using pcs_induct with
  | h0 => intro k x h; simp [pcs_nil] at h
  | h1 l hne ih =>
    intro k x h
    have hw := Lib.decodeL_le l hne
    rw [pcs_step l hne] at h ⊢
    cases k with
    | zero =>
      obtain rfl : ((Lib.decodeL l).1, l.take (Lib.decodeL l).2) = x := by simpa using h
      rw [List.take_zero, flat_nil, List.length_nil, atL_zero l hne]
      simp only [List.length_take, Nat.min_eq_left hw]
    | succ k =>
      have h' : (pcs (l.drop (Lib.decodeL l).2))[k]? = some x := by simpa using h
      have hw1 := Lib.decodeL_width l
      have hlt : (l.take (Lib.decodeL l).2).length = (Lib.decodeL l).2 := by rw [List.length_take, Nat.min_eq_left hw]
      rw [List.take_succ_cons, flat_cons, List.length_append]
      show atL l ((l.take (Lib.decodeL l).2).length + _) = _
      rw [hlt, atL_step l hne, if_neg (by omega), if_neg (by omega), Nat.add_sub_cancel_left]
      exact ih k x h'
theorem at_none (l : List UInt8) : ∀ i, (∀ k, k < (pcs l).length → (flat ((pcs l).take k)).length ≠ i) → atL l i = none := by
  induction l using pcs_induct with
  | h0 => intro i _; rfl
  | h1 l hne ih =>
    intro i h
    have hw := Lib.decodeL_le l hne
    have hw1 := Lib.decodeL_width l
    have hlt : (l.take (Lib.decodeL l).2).length = (Lib.decodeL l).2 := by rw [List.length_take, Nat.min_eq_left hw]
    rw [pcs_step l hne] at h
    have h0 : i ≠ 0 := fun e => h 0 (by simp) (by rw [List.take_zero, flat_nil, e]; rfl)
    rw [atL_step l hne, if_neg h0]
    by_cases h1 : i < (Lib.decodeL l).2
    · rw [if_pos h1]
    · rw [if_neg h1]
      refine ih _ fun k hk e => h (k + 1) (by simp; omega) ?_
      rw [List.take_succ_cons, flat_cons, List.length_append]
      show (l.take (Lib.decodeL l).2).length + _ = _
      rw [hlt, e]; omega

set_option maxHeartbeats 2000000 in
set_option maxRecDepth 100000 in
theorem refAt_any (s : ByteArray) (i : Int) (w : World) (hs : s.size ≤ 1099511627776) :
    Calls Tryd.prog 24 #[.string s, .int .i64 i] w fun e w' => e = .returned (atV (atZ s.data.toList i)) ∧ Below w.heap.size w w' := by
  obtain ⟨P, hP⟩ : ∃ P, pcs s.data.toList = P := ⟨_, rfl⟩
  have hcP := pieces_P s P hP w hs
  have hPs := pieces_len s P hP
  have hhit := at_hit s.data.toList
  have hno := at_none s.data.toList
  rw [hP] at hhit hno
  have hhit' : ∀ k x, P[k]? = some x → ((flat (P.take k)).length : Int) = i → atZ s.data.toList i = some (x.1, x.2.length) := fun k x hx hi => by
    unfold atZ; rw [if_pos (by omega), ← hi, Int.toNat_natCast]; exact hhit k x hx
  have hno' : (∀ k, k < P.length → ((flat (P.take k)).length : Int) ≠ i) → atZ s.data.toList i = none := fun h => by
    unfold atZ; split
    · exact hno _ fun k hk e => h k hk (by omega)
    · rfl
  obtain ⟨R, hR⟩ : ∃ R, atZ s.data.toList i = R := ⟨_, rfl⟩
  rw [hR] at hhit' hno' ⊢
  have HHIT := Lib.hid hhit'
  have HNO := Lib.hid hno'
  have HCP := Lib.hid hcP
  clear hP hcP hhit hno hhit' hno' hR
  go_enter Tryd.func24, Tryd.ntmps24
  go_wp2_with fail
  refine HCP.out.mono ?_
  rintro e w1 ⟨ao, cap, rfl, hnc, b1, hg⟩
  have HG := Lib.hid hg
  clear hg
  go_wp2
  go_loop [8] (fun iv => ∃ k : Nat, iv = .int .i64 (k : Int) ∧ k ≤ P.length ∧ (∀ j, j < k → ((flat (P.take j)).length : Int) ≠ i)) (fun iv => P.length - (Go.RowKit.intOf iv).toNat)
  case atStart => exact ⟨0, rfl, Nat.zero_le _, fun j hj => absurd hj (by omega)⟩
  case round =>
    obtain ⟨k, rfl, hk, hall⟩ := hrel
    have HALL := Lib.hid hall
    clear hall
    by_cases hlt : k < P.length
    · obtain ⟨g, rfl, hgl, hcells⟩ := HG.out (by omega)
      obtain ⟨x, hx⟩ : ∃ x, P[k]? = some x := ⟨_, List.getElem?_eq_getElem hlt⟩
      obtain ⟨hc0, hc1, hc2, -⟩ := hcells k x hx
      have hkz : (k : Int) < (P.length : Int) := by omega
      have hkz0 : (0 : Int) ≤ (k : Int) := by omega
      have hhit := fun hi => HHIT.out k x hx hi
      have HX := Lib.hid hx
      clear hcells hx
      obtain ⟨F, hF⟩ : ∃ F, (flat (P.take k)).length = F := ⟨_, rfl⟩
      rw [hF] at hc0 hhit
      by_cases hb : (F : Int) = i
      · have hbb : ((F : Int) == i) = true := beq_iff_eq.2 hb
        have hfin := Lib.hid (hhit hb)
        have HB := Lib.hid hb
        clear hb hhit hF
        go_wp2
        go_quiet (fail)
        go_wp2
        go_ret3
        refine ⟨?_, b1.trans ⟨rfl, rfl, rfl, Nat.le_refl _, fun _ _ => rfl⟩⟩
        rw [hfin.out]; rfl
      · have hbb : ((F : Int) == i) = false := beq_eq_false_iff_ne.2 hb
        have hall2 : ∀ j, j < k + 1 → ((flat (P.take j)).length : Int) ≠ i := fun j hj => by
          by_cases e : j = k
          · subst e; rw [hF]; exact hb
          · exact HALL.out j (by omega)
        have HALL2 := Lib.hid hall2
        clear hb hhit hF hall2
        go_wp2
        exact ⟨⟨k + 1, by go_num, by omega, HALL2.out⟩, by simp only [Go.RowKit.intOf]; omega⟩
    · have hkz : ¬ ((k : Int) < (P.length : Int)) := by omega
      have hno := Lib.hid (HNO.out fun j hj => HALL.out j (by omega))
      go_wp2
      go_ret3
      exact ⟨by rw [hno.out]; rfl, b1⟩

/-- A piece's bytes, by its place and its width. -/
theorem piece_bytes (l : List UInt8) (k : Nat) (x : Pc) (h : (pcs l)[k]? = some x) : (l.drop (flat ((pcs l).take k)).length).take x.2.length = x.2 ∧ (flat ((pcs l).take k)).length + x.2.length ≤ l.length := by
  have e : l = flat ((pcs l).take k) ++ (x.2 ++ flat ((pcs l).drop (k + 1))) := by
    have h1 : (pcs l).drop k = x :: (pcs l).drop (k + 1) := by
      obtain ⟨hlt, rfl⟩ := List.getElem?_eq_some_iff.1 h
      exact List.drop_eq_getElem_cons hlt
    have := flat_pcs l
    rw [← List.take_append_drop k (pcs l), flat_append, h1, flat_cons] at this
    exact this.symm
  generalize flat ((pcs l).take k) = A at e ⊢
  generalize flat ((pcs l).drop (k + 1)) = B at e
  subst e
  rw [List.drop_left, List.take_left]
  simp only [List.length_append]
  exact ⟨trivial, by omega⟩
theorem app_list' (a b : ByteArray) : (a ++ b).data.toList = a.data.toList ++ b.data.toList := by
  rw [ByteArray.data_append, Array.toList_append]
theorem app_size' (a b : ByteArray) : (a ++ b).size = a.size + b.size := by
  rw [Lib.size_eq, app_list', List.length_append, ← Lib.size_eq, ← Lib.size_eq]

def RefBackRel (P : List Pc) (n : Nat) (T : ByteArray) (m : Nat) (z : Int) : Prop :=
  T.data.toList = flat (P.drop m).reverse ∧ m ≤ P.length ∧ z = (m : Int) - 1 ∧ T.size + (flat (P.take m)).length = n

set_option maxHeartbeats 2000000 in
set_option maxRecDepth 100000 in
theorem refBack_any (s : ByteArray) (w : World) (hs : s.size ≤ 1099511627776) :
    Calls Tryd.prog 26 #[.string s] w fun e w' => e = .returned (.string ⟨(backL s.data.toList).toArray⟩) ∧ Below w.heap.size w w' := by
  obtain ⟨P, hP⟩ : ∃ P, pcs s.data.toList = P := ⟨_, rfl⟩
  have hcP := pieces_P s P hP w hs
  have hPs := pieces_len s P hP
  have hpb := piece_bytes s.data.toList
  have hfl := flat_pcs s.data.toList
  have hbk : backL s.data.toList = flat P.reverse := by unfold backL; rw [hP]
  rw [hP] at hpb hfl
  have h0 : RefBackRel P s.size ⟨#[]⟩ P.length ((P.length : Int) - 1) := by
    refine ⟨by rw [List.drop_length]; rfl, Nat.le_refl _, rfl, ?_⟩
    rw [List.take_length, hfl, ← Lib.size_eq]; exact Nat.zero_add _
  obtain ⟨R, hR⟩ : ∃ R : ByteArray, (⟨(backL s.data.toList).toArray⟩ : ByteArray) = R := ⟨_, rfl⟩
  have hRl : R.data.toList = flat P.reverse := by rw [← hR, hbk]
  rw [hR]
  have HRL := Lib.hid hRl
  have H0 := Lib.hid h0
  have HPB := Lib.hid hpb
  have HCP := Lib.hid hcP
  clear hP hcP hpb hfl hbk h0 hR hRl
  go_enter Tryd.func26, Tryd.ntmps26
  go_wp2_with fail
  refine HCP.out.mono ?_
  rintro e w1 ⟨ao, cap, rfl, hnc, b1, hg⟩
  have HG := Lib.hid hg
  clear hg
  go_wp2
  go_loopw [3, 5] (fun tv iv wr => ∃ T m z, RefBackRel P s.size T m z ∧ tv = .string T ∧ iv = .int .i64 z ∧ Below w1.heap.size w1 wr) (fun _ iv _ => (Go.RowKit.intOf iv + 1).toNat)
  case atStart => exact ⟨_, _, _, H0.out, rfl, rfl, Below.refl _ _⟩
  case round =>
    obtain ⟨T, m, z, ⟨hTl, hm, hz, hTs⟩, rfl, rfl, hbw⟩ := hrel
    by_cases h1 : 1 ≤ m
    · obtain ⟨k, rfl⟩ : ∃ k, m = k + 1 := ⟨m - 1, by omega⟩
      obtain rfl : z = (k : Int) := by omega
      obtain ⟨g, rfl, hgl, hcells⟩ := HG.out (by omega)
      obtain ⟨x, hx⟩ : ∃ x, P[k]? = some x := ⟨_, List.getElem?_eq_getElem (by omega)⟩
      obtain ⟨hc0', hc1', -, -⟩ := hcells k x hx
      have hc0 := (hbw.cell (p := ⟨g, k * 4, none⟩) hgl).trans hc0'
      have hc1 := (hbw.cell (p := ⟨g, k * 4 + 1, none⟩) hgl).trans hc1'
      obtain ⟨hb1, hb2⟩ := HPB.out k x hx
      obtain ⟨F, hF⟩ : ∃ F, (flat (P.take k)).length = F := ⟨_, rfl⟩
      obtain ⟨X, hX⟩ : ∃ X, x.2.length = X := ⟨_, rfl⟩
      rw [hF] at hc0 hb1 hb2
      rw [hX] at hc1 hb1 hb2
      rw [← Lib.size_eq] at hb2
      have hnew : RefBackRel P s.size (T ++ s.extract F (F + X)) k ((k : Int) - 1) := by
        have hxl : (s.extract F (F + X)).data.toList = x.2 := by rw [Lib.extract_data, Nat.add_sub_cancel_left]; exact hb1
        have hd : P.drop k = x :: P.drop (k + 1) := by
          obtain ⟨hlt, rfl⟩ := List.getElem?_eq_some_iff.1 hx
          exact List.drop_eq_getElem_cons hlt
        refine ⟨?_, by omega, rfl, ?_⟩
        · rw [app_list', hTl, hxl, hd, List.reverse_cons, flat_append, flat_cons, flat_nil, List.append_nil]
        · have hxs : (s.extract F (F + X)).size = X := by rw [Lib.size_eq, hxl, hX]
          rw [List.take_add_one, hx, flat_append, List.length_append] at hTs
          simp only [Option.toList_some, flat_cons, flat_nil, List.append_nil] at hTs
          rw [app_size', hxs]; omega
      have hTsz : T.size ≤ s.size := by omega
      have hkz : (k : Int) < (P.length : Int) := by omega
      have hkz0 : (0 : Int) ≤ (k : Int) := by omega
      have e1 : IntKind.i64.wrap ((F : Int) + (X : Int)) = (F : Int) + (X : Int) := IntWalk.i64_in _ (by omega)
      have e2 : ((F : Int) + (X : Int)).toNat = F + X := by omega
      have hFX : (F : Int) + (X : Int) ≤ (s.size : Int) := by omega
      have hFX2 : (F : Int) ≤ (F : Int) + (X : Int) := by omega
      have HNEW := Lib.hid hnew
      clear hcells hx hc0' hc1' hb1 hnew hTl hTs hm hF hX hz
      go_wp2
      go_quiet (fail)
      go_wp2
      exact ⟨⟨_, _, _, HNEW.out, rfl, rfl, hbw.trans ⟨rfl, rfl, rfl, Nat.le_refl _, fun _ _ => rfl⟩⟩, by simp only [Go.RowKit.intOf]; omega⟩
    · obtain rfl : m = 0 := by omega
      have hz1 : z < 0 := by omega
      have hfin : Ending.returned (Value.string T) = .returned (.string R) := by
        have e : T.data.toList = R.data.toList := by rw [hTl, HRL.out, List.drop_zero]
        have : T = R := by cases T; cases R; simp only [ByteArray.mk.injEq]; exact Array.toList_inj.1 e
        rw [this]
      have HFIN := Lib.hid hfin
      clear hfin hTl hTs hz hm
      go_wp2
      go_ret
      exact ⟨HFIN.out, b1.trans (hbw.mono b1.size)⟩
end Go.Proofs.YtocejllclpdnnaaDoor
