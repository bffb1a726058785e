/- The contract of the document's own List, and of the comparison of two lists of runes. -/
import Derived.Test.YtocejllclpdnnaaDoorRefSimple
import Derived.Deep.QuietTactic
import Derived.BigQuiet
namespace Go.Proofs.YtocejllclpdnnaaDoor
open Go.RowKit

theorem own_base {w : World} {B B' : Nat} {e : TypeId} {z : Nat} {v : Value} {n : Nat} {xs : List Value} (h : w.ownsRow B e z v n xs) (hB : B' ≤ B) : w.ownsRow B' e z v n xs := by
  refine ⟨h.1, ?_⟩
  rcases h.2 with hn | ⟨g, cap, cur, hv, hbg, rest⟩
  · exact .inl hn
  · exact .inr ⟨g, cap, cur, hv, by omega, rest⟩

def RefListRel (P : List Pc) (rs : List Nat) (w1 wr : World) (v : Value) (k : Nat) : Prop :=
  wr.ownsRow w1.heap.size 21 1 v k (runeVals (rs.take k)) ∧ Below w1.heap.size w1 wr ∧ k ≤ P.length

set_option maxHeartbeats 4000000 in
set_option maxRecDepth 1000000 in
theorem refList_any (s : ByteArray) (w : World) (hs : s.size ≤ 1099511627776) :
    Calls Tryd.prog 16 #[.string s] w (ListEnd s w) := by
  obtain ⟨i0, hi, hz0, hz1, hz2⟩ := info_parts (show (Tryd.prog.info? 21).map (fun i => (i.zero, i.size, i.bytes)) = some (some (.int .i32 0), 1, 4) by kernel_rfl)
  obtain ⟨P, hP⟩ : ∃ P, pcs s.data.toList = P := ⟨_, rfl⟩
  have hcP := pieces_P s P hP w hs
  have hPs := pieces_len s P hP
  obtain ⟨rs, hrs⟩ : ∃ rs : List Nat, P.map (·.1) = rs := ⟨_, rfl⟩
  have HRS := Lib.hid hrs
  have HP := Lib.hid hP
  have HCP := Lib.hid hcP
  clear hP hcP hrs
  go_enter Tryd.func16, Tryd.ntmps16
  go_wp2_with fail
  refine HCP.out.mono ?_
  rintro e w1 ⟨ao, cap, rfl, hnc, b1, hg⟩
  have h0 : RefListRel P rs w1 w1 (.slice none 0 0) 0 := ⟨World.ownsRow_nil _ _ _ _, Below.refl _ _, Nat.zero_le _⟩
  have H0 := Lib.hid h0
  have HG := Lib.hid hg
  have HB1 := Lib.hid b1
  clear hg h0 b1
  go_wp2
  go_loopw [3, 5] (fun v iv wr => ∃ k : Nat, RefListRel P rs w1 wr v k ∧ iv = .int .i64 (k : Int)) (fun _ iv _ => P.length - (Go.RowKit.intOf iv).toNat)
  case atStart => exact ⟨0, H0.out, rfl⟩
  case round =>
    obtain ⟨k, ⟨hown, hbw, hk⟩, rfl⟩ := hrel
    have HOWN := Lib.hid hown
    clear hown
    have hsz : w1.heap.size ≤ wr.heap.size := hbw.size
    by_cases hlt : k < P.length
    · obtain ⟨g, rfl, hgl, hcells⟩ := HG.out (by omega)
      obtain ⟨x, hx⟩ : ∃ x, P[k]? = some x := ⟨_, List.getElem?_eq_getElem hlt⟩
      obtain ⟨-, -, hc2', -⟩ := hcells k x hx
      have hc2 : wr.cell? ⟨g, k * 4 + 2, none⟩ = some (.int .i32 (x.1 : Int)) := (hbw.cell (p := ⟨g, k * 4 + 2, none⟩) hgl).trans hc2'
      have htk : runeVals (rs.take k) ++ [Value.int .i32 (x.1 : Int)] = runeVals (rs.take (k + 1)) := by
        have : rs[k]? = some x.1 := by rw [← HRS.out, List.getElem?_map, hx]; rfl
        rw [runeVals_snoc, List.take_add_one, this]; rfl
      have HTK := Lib.hid htk
      have hkz : (k : Int) < (P.length : Int) := by omega
      clear hcells hx hc2' htk
      go_wp2_with (at_builtin; refine wpList_append_own _ rfl _ _ 24 rfl w1.heap.size 21 i0 (.int .i32 0) 1 4 Tryd.underlying24 hi hz0 hz1 hz2 rfl (by decide) _ _ _ rfl (HOWN.out.alloc _) ⟨wr.heap.size, 0, none⟩ 1 1 [.int .i32 (x.1 : Int)] rfl rfl ?c1 ?c2 ?c3 ?c4 ?c5 ?_)
      case c2 => first | rfl | (intro u hu; simp at hu; subst hu; rfl)
      case c3 => unfold maxLen; omega
      case c4 => omega
      case c5 => first | omega | (rw [alloc_size]; omega)
      all_goals try
        (intro j u hj
         match j, hj with
         | 0, hj => simp at hj; subst hj; simp [Addr.add]; done
         | j + 1, hj => simp at hj; done)
      intro v' w2 hown' hgrow' _
      rw [HTK.out] at hown'
      have hbw2 : Below w1.heap.size w1 w2 := (hbw.alloc hsz _).grown hgrow' (by rw [alloc_size]; omega) (fun j hj => (HOWN.out.lt j hj).1)
      have HOWN2 := Lib.hid hown'
      clear hown' hgrow'
      go_wp2
      go_roundw
      case rel => exact ⟨k + 1, ⟨HOWN2.out, hbw2, by omega⟩, by go_num⟩
      case measure => simp [Go.RowKit.intOf]; omega
    · have hkz : ¬ ((k : Int) < (P.length : Int)) := by omega
      have hkP : k = P.length := by omega
      have hfin : wr.ownsRow w.heap.size 21 1 u3 (runesL s.data.toList).length (runeVals (runesL s.data.toList)) := by
        have := own_base HOWN.out HB1.out.size
        have hl : rs.length = P.length := by rw [← HRS.out, List.length_map]
        rw [List.take_of_length_le (by omega)] at this
        unfold runesL; rw [HP.out, HRS.out, hl, ← hkP]; exact this
      have HFIN := Lib.hid hfin
      clear hfin hkP
      go_wp2
      go_ret
      exact ⟨_, rfl, HFIN.out, HB1.out.trans (hbw.mono HB1.out.size)⟩

/-- Two lists of runes that hold the same. -/
theorem same_any (ao bo : Option Addr) (N ca cb : Nat) (rs : List Nat) (w : World) (hN : rs.length = N) (hN5 : N ≤ 1099511627776)
    (ha : 0 < N → ∃ g, ao = some ⟨g, 0, none⟩ ∧ g < w.heap.size ∧ ∀ j u, (runeVals rs)[j]? = some u → w.cell? ⟨g, j, none⟩ = some u)
    (hb : 0 < N → ∃ g, bo = some ⟨g, 0, none⟩ ∧ g < w.heap.size ∧ ∀ j u, (runeVals rs)[j]? = some u → w.cell? ⟨g, j, none⟩ = some u) :
    Calls Tryd.prog 14 #[.slice ao N ca, .slice bo N cb] w fun e w' => e = .returned (.bool true) ∧ Below w.heap.size w w' := by
  have HA := Lib.hid ha
  have HB := Lib.hid hb
  have HN := Lib.hid hN
  clear ha hb hN
  go_enter Tryd.func14, Tryd.ntmps14
  go_wp2
  go_loopw [5] (fun iv wr => ∃ k : Nat, iv = .int .i64 (k : Int) ∧ k ≤ N ∧ Below w.heap.size w wr) (fun iv _ => N - (Go.RowKit.intOf iv).toNat)
  case atStart => exact ⟨0, rfl, Nat.zero_le _, Below.refl _ _⟩
  case round =>
    obtain ⟨k, rfl, hk, hbw⟩ := hrel
    by_cases hlt : k < N
    · obtain ⟨ga, rfl, hga, hca'⟩ := HA.out (by omega)
      obtain ⟨gb, rfl, hgb, hcb'⟩ := HB.out (by omega)
      obtain ⟨x, hx⟩ : ∃ x, rs[k]? = some x := ⟨_, List.getElem?_eq_getElem (by rw [HN.out]; exact hlt)⟩
      have hv : (runeVals rs)[k]? = some (.int .i32 (x : Int)) := by unfold runeVals; rw [List.getElem?_map, hx]; rfl
      have hc1 : wr.cell? ⟨ga, k, none⟩ = some (.int .i32 (x : Int)) := (hbw.cell (p := ⟨ga, k, none⟩) hga).trans (hca' k _ hv)
      have hc2 : wr.cell? ⟨gb, k, none⟩ = some (.int .i32 (x : Int)) := (hbw.cell (p := ⟨gb, k, none⟩) hgb).trans (hcb' k _ hv)
      have hkz : (k : Int) < (N : Int) := by omega
      clear hca' hcb' hx hv
      go_wp2
      go_quiet (fail)
      go_wp2
      exact ⟨⟨k + 1, by go_num, by omega, hbw.trans ⟨rfl, rfl, rfl, Nat.le_refl _, fun _ _ => rfl⟩⟩, by simp only [Go.RowKit.intOf]; omega⟩
    · have hkz : ¬ ((k : Int) < (N : Int)) := by omega
      go_wp2
      go_ret
      exact ⟨rfl, hbw⟩
end Go.Proofs.YtocejllclpdnnaaDoor
