/- The contracts of the document's own Count and Valid. -/
import Derived.Test.YtbeeeakcjeibgaaDoorRefPieces
import Derived.Test.YtbeeeakcjeibgaaDoorVText
namespace Go.Proofs.YtbeeeakcjeibgaaDoor
open Go.RowKit

/-- What Pieces answers, and where each piece lies. -/
theorem pieces_slice {w : World} {B : Nat} {e : TypeId} {v : Value} {P : List Pc} (h : w.ownsRow B e 4 v P.length (cellsFrom 0 P)) :
    ∃ ao cap, v = .slice ao P.length cap ∧ P.length ≤ cap ∧ cap ≤ maxLen ∧ (0 < P.length → ∃ g, ao = some ⟨g, 0, none⟩ ∧ g < w.heap.size ∧ ∀ k x, P[k]? = some x →
      w.cell? ⟨g, k * 4, none⟩ = some (.int .i64 ((flat (P.take k)).length : Int)) ∧ w.cell? ⟨g, k * 4 + 1, none⟩ = some (.int .i64 (x.2.length : Int)) ∧ w.cell? ⟨g, k * 4 + 2, none⟩ = some (.int .i32 (x.1 : Int)) ∧ w.cell? ⟨g, k * 4 + 3, none⟩ = some (.bool (decide (bad x)))) := by
  have h' := h
  rcases h.2 with ⟨rfl, hn⟩ | ⟨g, cap, cur, rfl, hbg, hg, hnc, hcm, rest⟩
  · exact ⟨none, 0, by rw [hn], by omega, by unfold maxLen; omega, fun hp => absurd hp (by omega)⟩
  · refine ⟨_, cap, rfl, hnc, hcm, fun _ => ⟨g, rfl, (Array.getElem?_eq_some_iff.1 hg).1, fun k x hx => ?_⟩⟩
    have hc : ∀ j u, (cellsFrom 0 P)[j]? = some u → w.cell? ⟨g, j, none⟩ = some u := fun j u hu => by
      have := h'.cells (g := g) rfl j u hu
      have e : (⟨g, 0, none⟩ : Addr).add j = ⟨g, j, none⟩ := by unfold Addr.add; split <;> simp_all
      rwa [e] at this
    have hk := fun j (hj : j < 4) => cellsFrom_at P 0 k x hx j hj
    simp only [Nat.zero_add] at hk
    exact ⟨hc _ _ (hk 0 (by omega)), hc _ _ (hk 1 (by omega)), hc _ _ (hk 2 (by omega)), hc _ _ (hk 3 (by omega))⟩

set_option maxHeartbeats 400000 in
theorem refCount_any (s : ByteArray) (w : World) (hs : s.size ≤ 1099511627776) :
    Calls Tryd.prog 16 #[.string s] w fun e w' => e = .returned (.int .i64 (countL s.data.toList)) ∧ Below w.heap.size w w' := by
  go_enter Tryd.func16, Tryd.ntmps16
  go_wp2_with fail
  refine (pieces_any s _ hs).mono ?_
  rintro e w1 ⟨v, rfl, hown, b1⟩
  obtain ⟨ao, cap, rfl, -, -, -⟩ := pieces_slice hown
  clear hown
  go_wp2
  go_ret
  exact ⟨rfl, b1⟩

/-- Pieces, its list by a name. -/
def PiecesOf (P : List Pc) (w : World) (e : Ending) (w' : World) : Prop :=
  ∃ ao cap, e = .returned (.slice ao P.length cap) ∧ P.length ≤ cap ∧ Below w.heap.size w w' ∧ (0 < P.length → ∃ g, ao = some ⟨g, 0, none⟩ ∧ g < w'.heap.size ∧ ∀ k x, P[k]? = some x →
      w'.cell? ⟨g, k * 4, none⟩ = some (.int .i64 ((flat (P.take k)).length : Int)) ∧ w'.cell? ⟨g, k * 4 + 1, none⟩ = some (.int .i64 (x.2.length : Int)) ∧ w'.cell? ⟨g, k * 4 + 2, none⟩ = some (.int .i32 (x.1 : Int)) ∧ w'.cell? ⟨g, k * 4 + 3, none⟩ = some (.bool (decide (bad x))))
theorem pieces_P (s : ByteArray) (P : List Pc) (hP : pcs s.data.toList = P) (w : World) (hs : s.size ≤ 1099511627776) : Calls Tryd.prog 24 #[.string s] w (PiecesOf P w) := by
  subst hP
  refine (pieces_any s w hs).mono ?_
  rintro e w1 ⟨v, rfl, hown, b1⟩
  obtain ⟨ao, cap, rfl, hnc, -, hg⟩ := pieces_slice hown
  exact ⟨ao, cap, rfl, hnc, b1, hg⟩
theorem pieces_len (s : ByteArray) (P : List Pc) (hP : pcs s.data.toList = P) : P.length ≤ s.size := by
  have := runeCount_eq s; have h2 := Lib.runeCount_le s; unfold countL at this; rw [hP] at this; omega

set_option maxHeartbeats 1000000 in
theorem refValid_any (s : ByteArray) (w : World) (hs : s.size ≤ 1099511627776) :
    Calls Tryd.prog 15 #[.string s] w fun e w' => e = .returned (.bool (validL s.data.toList)) ∧ Below w.heap.size w w' := by
  obtain ⟨P, hP⟩ : ∃ P, pcs s.data.toList = P := ⟨_, rfl⟩
  have hcP := pieces_P s P hP w hs
  have hPs := pieces_len s P hP
  unfold validL
  rw [hP]
  obtain ⟨V, hV⟩ : ∃ V, (P.all fun x => !decide (bad x)) = V := ⟨_, rfl⟩
  rw [hV]
  have HV := Lib.hid hV
  have HCP := Lib.hid hcP
  clear hP hV hcP
  go_enter Tryd.func15, Tryd.ntmps15
  go_wp2_with fail
  refine HCP.out.mono ?_
  rintro e w1 ⟨ao, cap, rfl, hnc, b1, hg⟩
  have HG := Lib.hid hg
  clear hg
  go_wp2
  go_loop [4] (fun iv => ∃ k : Nat, iv = .int .i64 (k : Int) ∧ k ≤ P.length ∧ (P.take k).all (fun x => !decide (bad x)) = true) (fun iv => P.length - (Go.RowKit.intOf iv).toNat)
  case atStart => exact ⟨0, rfl, Nat.zero_le _, rfl⟩
  case round =>
    obtain ⟨k, rfl, hk, hall⟩ := hrel
    have HALL := Lib.hid hall
    clear hall
    by_cases hlt : k < P.length
    · obtain ⟨g, rfl, hgl, hcells⟩ := HG.out (by omega)
      obtain ⟨x, hx⟩ : ∃ x, P[k]? = some x := ⟨_, List.getElem?_eq_getElem hlt⟩
      obtain ⟨-, -, -, hc3⟩ := hcells k x hx
      have hkz : (k : Int) < (P.length : Int) := by omega
      by_cases hb : bad x
      · have hvf : V = false := by
          rw [← HV.out]
          exact List.all_eq_false.2 ⟨x, List.mem_of_getElem? hx, by simp [hb]⟩
        rw [decide_eq_true hb] at hc3
        have HVF := Lib.hid hvf
        clear hcells hx hb hvf
        go_wp2
        go_ret
        exact ⟨congrArg (fun b => Ending.returned (Value.bool b)) HVF.out.symm, b1⟩
      · have hall2 : (P.take (k + 1)).all (fun x => !decide (bad x)) = true := by
          rw [List.take_add_one, hx, List.all_append, HALL.out]
          simp [hb]
        rw [decide_eq_false hb] at hc3
        have HALL2 := Lib.hid hall2
        clear hcells hx hb hall2
        go_wp2
        exact ⟨⟨k + 1, by go_num, by omega, HALL2.out⟩, by simp only [Go.RowKit.intOf]; omega⟩
    · have hkz : ¬ ((k : Int) < (P.length : Int)) := by omega
      have hvt : V = true := by
        have := HALL.out
        rw [List.take_of_length_le (by omega)] at this
        rw [← HV.out]; exact this
      have HVT := Lib.hid hvt
      clear hvt
      go_wp2
      go_ret
      exact ⟨congrArg (fun b => Ending.returned (Value.bool b)) HVT.out.symm, b1⟩

end Go.Proofs.YtbeeeakcjeibgaaDoor
