/- The contract of the document's own Fold. -/
import Derived.Test.YtocejllclpdnnaaDoorRefBytes
import Derived.Test.YtocejllclpdnnaaDoorRefUpper
import Derived.Test.YtocejllclpdnnaaDoorRefPlaces
namespace Go.Proofs.YtocejllclpdnnaaDoor
open Go.RowKit

theorem scalar_mem (l : List UInt8) : ∀ x ∈ pcs l, Scalar (x.1 : Int) := by
  induction l using pcs_induct with
  | h0 => intro x hx; cases hx
  | h1 l hne ih =>
    intro x hx
    rw [pcs_step l hne] at hx
    rcases List.mem_cons.1 hx with rfl | hx
    · exact scalar_of l
    · exact ih x hx
theorem fold_flat (l : List UInt8) : flat ((pcs l).map foldP) = foldL l := by rw [← pcs_fold, flat_pcs]

def RefFoldRel (P : List Pc) (T : ByteArray) (k : Nat) : Prop :=
  T.data.toList = flat ((P.take k).map foldP) ∧ k ≤ P.length ∧ T.size ≤ 4 * k
theorem refFold_step (P : List Pc) (T t : ByteArray) (k : Nat) (x : Pc) (h : RefFoldRel P T k) (hx : P[k]? = some x) (ht : t.data.toList = (foldP x).2) (h4 : t.size ≤ 4) : RefFoldRel P (T ++ t) (k + 1) := by
  obtain ⟨h1, h2, h3⟩ := h
  have hlt := (List.getElem?_eq_some_iff.1 hx).1
  refine ⟨?_, by omega, by rw [app_size']; omega⟩
  rw [app_list', h1, ht, List.take_add_one, hx, List.map_append, flat_append]
  simp [flat]

set_option maxHeartbeats 2000000 in
set_option maxRecDepth 100000 in
theorem refFold_any (s : ByteArray) (w : World) (hs : s.size ≤ 1099511627776) :
    Calls Tryd.prog 32 #[.string s] w fun e w' => e = .returned (.string ⟨(foldL s.data.toList).toArray⟩) ∧ Below w.heap.size w w' := by
  obtain ⟨P, hP⟩ : ∃ P, pcs s.data.toList = P := ⟨_, rfl⟩
  have hcP := pieces_P s P hP w hs
  have hPs := pieces_len s P hP
  have hpb := piece_bytes s.data.toList
  have hff := fold_flat s.data.toList
  have hsc := scalar_mem s.data.toList
  rw [hP] at hpb hff hsc
  have h0 : RefFoldRel P ⟨#[]⟩ 0 := ⟨rfl, Nat.zero_le _, Nat.le_refl _⟩
  obtain ⟨R, hR⟩ : ∃ R : ByteArray, (⟨(foldL s.data.toList).toArray⟩ : ByteArray) = R := ⟨_, rfl⟩
  have hRl : R.data.toList = flat (P.map foldP) := by rw [← hR, hff]
  rw [hR]
  have HRL := Lib.hid hRl
  have H0 := Lib.hid h0
  have HPB := Lib.hid hpb
  have HSC := Lib.hid hsc
  have HCP := Lib.hid hcP
  clear hP hcP hpb hff h0 hR hRl hsc
  go_enter Tryd.func32, Tryd.ntmps32
  go_wp2_with fail
  refine HCP.out.mono ?_
  rintro e w1 ⟨ao, cap, rfl, hnc, b1, hg⟩
  have HG := Lib.hid hg
  clear hg
  go_wp2
  go_loopw [3, 5] (fun tv iv wr => ∃ T k, RefFoldRel P T k ∧ tv = .string T ∧ iv = .int .i64 (k : Int) ∧ Below w1.heap.size w1 wr) (fun _ iv _ => P.length - (Go.RowKit.intOf iv).toNat)
  case atStart => exact ⟨_, 0, H0.out, rfl, rfl, Below.refl _ _⟩
  case round =>
    obtain ⟨T, k, hrel, rfl, rfl, hbw⟩ := hrel
    have hTsz := hrel.2.2
    have hk := hrel.2.1
    have HREL := Lib.hid hrel
    clear hrel
    by_cases hlt : k < P.length
    · obtain ⟨g, rfl, hgl, hcells⟩ := HG.out (by omega)
      obtain ⟨x, hx⟩ : ∃ x, P[k]? = some x := ⟨_, List.getElem?_eq_getElem hlt⟩
      obtain ⟨hc0', hc1', hc2', hc3'⟩ := hcells k x hx
      have hc0 := (hbw.cell (p := ⟨g, k * 4, none⟩) hgl).trans hc0'
      have hc2 := (hbw.cell (p := ⟨g, k * 4 + 2, none⟩) hgl).trans hc2'
      have hc3 := (hbw.cell (p := ⟨g, k * 4 + 3, none⟩) hgl).trans hc3'
      have hkz : (k : Int) < (P.length : Int) := by omega
      have hkz0 : (0 : Int) ≤ (k : Int) := by omega
      by_cases hb : bad x
      · obtain ⟨hb1, hb2⟩ := HPB.out k x hx
        obtain ⟨F, hF⟩ : ∃ F, (flat (P.take k)).length = F := ⟨_, rfl⟩
        rw [hF] at hc0 hb1 hb2
        rw [hb.2] at hb1 hb2
        rw [← Lib.size_eq] at hb2
        have hnew : RefFoldRel P (T ++ s.extract F (F + 1)) (k + 1) := by
          have hxl : (s.extract F (F + 1)).data.toList = x.2 := by rw [Lib.extract_data, Nat.add_sub_cancel_left]; exact hb1
          refine refFold_step P T _ k x HREL.out hx ?_ ?_
          · rw [hxl]; unfold foldP; rw [if_pos hb]
          · rw [Lib.size_eq, hxl, hb.2]; omega
        rw [decide_eq_true hb] at hc3
        have e1 : IntKind.i64.wrap ((F : Int) + 1) = (F : Int) + 1 := IntWalk.i64_in _ (by omega)
        have e2 : ((F : Int) + 1).toNat = F + 1 := by omega
        have hFX : (F : Int) + 1 ≤ (s.size : Int) := by omega
        have hFX2 : (F : Int) ≤ (F : Int) + 1 := by omega
        have HNEW := Lib.hid hnew
        clear hcells hx hc0' hc1' hc2' hc3' hb1 hnew hF hb hc2
        go_wp2
        go_quiet (fail)
        go_wp2
        exact ⟨⟨_, k + 1, HNEW.out, rfl, by go_num, hbw.trans ⟨rfl, rfl, rfl, Nat.le_refl _, fun _ _ => rfl⟩⟩, by simp only [Go.RowKit.intOf]; omega⟩
      · have hsx := HSC.out x (List.mem_of_getElem? hx)
        have hsu := scalar_upper _ hsx
        have cU := refUpper_any (x.1 : Int)
        have cB := fun W => refBytes_any (upperZ (x.1 : Int)) W hsu
        obtain ⟨t, ht⟩ : ∃ t : ByteArray, (⟨(Lib.encodeRune (upperZ (x.1 : Int))).toArray⟩ : ByteArray) = t := ⟨_, rfl⟩
        rw [ht] at cB
        have htl : t.data.toList = (foldP x).2 := by rw [← ht]; unfold foldP; rw [if_neg hb]
        have ht4 : t.size ≤ 4 := by
          rw [← ht, Lib.size_eq]
          have := Lib.runeCells_le (upperZ (x.1 : Int)); rw [Lib.runeCells_length] at this; exact this.2
        have hnew := refFold_step P T t k x HREL.out hx htl ht4
        rw [decide_eq_false hb] at hc3
        have HNEW := Lib.hid hnew
        have CU := Lib.hid cU
        have CB := Lib.hid cB
        clear hcells hx hc0' hc1' hc2' hc3' hnew hb hc0 hsx hsu cU cB ht htl
        go_wp2_with fail
        refine (CU.out _).mono ?_
        rintro e w2 ⟨rfl, rfl⟩
        go_wp2_with fail
        refine (CB.out _).mono ?_
        rintro e w3 ⟨rfl, b3⟩
        have hbw3 := hbw.trans (b3.mono hbw.size)
        go_wp2
        go_roundw
        case rel => exact ⟨_, k + 1, HNEW.out, rfl, by go_num, hbw3⟩
        case measure => simp only [Go.RowKit.intOf]; omega
    · have hkz : ¬ ((k : Int) < (P.length : Int)) := by omega
      have hfin : Ending.returned (Value.string T) = .returned (.string R) := by
        have e : T.data.toList = R.data.toList := by rw [HREL.out.1, HRL.out, List.take_of_length_le (by omega)]
        have : T = R := by cases T; cases R; simp only [ByteArray.mk.injEq]; exact Array.toList_inj.1 e
        rw [this]
      have HFIN := Lib.hid hfin
      clear hfin
      go_wp2
      go_ret
      exact ⟨HFIN.out, b1.trans (hbw.mono b1.size)⟩
end Go.Proofs.YtocejllclpdnnaaDoor
