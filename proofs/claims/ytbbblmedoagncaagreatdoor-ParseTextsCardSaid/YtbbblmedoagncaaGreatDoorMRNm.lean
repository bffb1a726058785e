/- palaverref07.With, Names: the names in an expression, by what they hold. -/
import Derived.Test.YtbbblmedoagncaaGreatDoorGT
import Derived.Test.YtbbblmedoagncaaGreatDoorGX
import Derived.Test.YtbbblmedoagncaaGreatDoorGO
import Derived.Test.YtbbblmedoagncaaGreatDoorGJ
import Derived.Test.YtbbblmedoagncaaGreatDoorMPNs
import Derived.Sort.Walk0
namespace Go.Proofs.YtbbblmedoagncaaGreatDoor
open Go.RowKit

mutual
/-- The names in an expression, as they stand. -/
def nmE : Ex → List ByteArray
  | .mk op _ s ks => if op = 4 then [⟨s.toArray⟩] else nmL ks
def nmL : List Ex → List ByteArray
  | [] => []
  | e :: es => nmE e ++ nmL es
end
theorem nmL_snoc (e : Ex) : ∀ es : List Ex, nmL (es ++ [e]) = nmL es ++ nmE e
  | [] => by rw [List.nil_append, nmL, nmL, nmL]; simp
  | x :: es => by rw [List.cons_append, nmL, nmL_snoc e es, nmL, List.append_assoc]
/-- A list of texts: nil, or one that lies in a row. -/
def NV (w : World) (v : Value) (L : List ByteArray) : Prop :=
  (L = [] ∧ v = .slice none 0 0) ∨ (∃ b off cap, v = .slice (some ⟨b, off, none⟩) L.length cap ∧ 0 < L.length ∧ L.length ≤ cap ∧ ∀ j, j < L.length → w.cell? ⟨b, off + j, none⟩ = some (.string (L.getD j ByteArray.empty)))
theorem NV.nil (w : World) : NV w (.slice none 0 0) [] := .inl ⟨rfl, rfl⟩
theorem NV.els {w : World} {v : Value} {L : List ByteArray} (h : NV w v L) : ∃ ao cap, v = .slice ao L.length cap ∧ Ts w ao L := by
  rcases h with ⟨rfl, rfl⟩ | ⟨b, off, cap, rfl, h0, hc, hj⟩
  · exact ⟨none, 0, rfl, Els.nil _ _⟩
  · exact ⟨_, cap, rfl, fun _ => ⟨b, off, rfl, hj⟩⟩
theorem NV.later {w w' : World} {v : Value} {L : List ByteArray} (h : NV w v L) (hb : Below w.heap.size w w') : NV w' v L := by
  rcases h with h | ⟨b, off, cap, rfl, h0, hc, hj⟩
  · exact .inl h
  · have hl := World.block_lt_of_cell? w _ (hj 0 h0)
    exact .inr ⟨b, off, cap, rfl, h0, hc, fun j hlt => (hb.cell (p := ⟨b, off + j, none⟩) hl).trans (hj j hlt)⟩
theorem NV.own {w : World} {B : Nat} {v : Value} {L : List ByteArray} (h : w.ownsRow B 9 1 v L.length (L.map fun s => Value.string s)) (h0 : 0 < L.length) : NV w v L := by
  obtain ⟨A, cap, rfl, hc, hE, -⟩ := els_own (d := ByteArray.empty) h
  obtain ⟨b, off, rfl, hj⟩ := hE h0
  exact .inr ⟨b, off, cap, rfl, h0, hc, hj⟩
theorem rise_put {L : List ByteArray} {k : Nat} {s : ByteArray} (hlow : ∀ j, j < k → (L.getD j ByteArray.empty).data.toList < s.data.toList) (hhigh : ∀ c, L[k]? = some c → s.data.toList < c.data.toList) (h : RiseB L) : RiseB (L.take k ++ [s] ++ L.drop k) := by
  unfold RiseB Rise at h ⊢
  rw [List.map_append, List.map_append, List.append_assoc]
  have hp : ((L.take k).map (fun s => s.data.toList) ++ (L.drop k).map fun s => s.data.toList).Pairwise (· < ·) := by rw [← List.map_append, List.take_append_drop]; exact h
  obtain ⟨h1, h2, h3⟩ := List.pairwise_append.1 hp
  have lo : ∀ a ∈ (L.take k).map (fun s => s.data.toList), a < s.data.toList := fun a ha => by
    obtain ⟨x, hx, rfl⟩ := List.mem_map.1 ha
    obtain ⟨j, hj, rfl⟩ := List.mem_iff_getElem.1 hx
    rw [List.length_take] at hj
    have := hlow j (by omega)
    rw [List.getD_eq_getElem?_getD, List.getElem?_eq_getElem (by omega)] at this
    simpa using this
  have hi : ∀ a ∈ (L.drop k).map (fun s => s.data.toList), s.data.toList < a := fun a ha => by
    obtain ⟨x, hx, rfl⟩ := List.mem_map.1 ha
    cases hd : L.drop k with
    | nil => rw [hd] at hx; cases hx
    | cons c cs =>
      have hc : L[k]? = some c := by have := List.getElem?_drop (xs := L) (i := k) (j := 0); rw [hd] at this; simpa using this.symm
      rw [hd] at hx h2
      rcases List.mem_cons.1 hx with rfl | hx
      · exact hhigh _ hc
      · rw [List.map_cons] at h2
        exact bt_trans (hhigh _ hc) ((List.pairwise_cons.1 h2).1 _ (List.mem_map.2 ⟨x, hx, rfl⟩))
  refine List.pairwise_append.2 ⟨h1, List.pairwise_append.2 ⟨by simp, h2, fun a ha b hb => ?_⟩, fun a ha b hb => ?_⟩
  · have : a = s.data.toList := by simpa using ha
    rw [this]; exact hi b hb
  · rcases List.mem_append.1 hb with hb | hb
    · have : b = s.data.toList := by simpa using hb
      rw [this]; exact lo a ha
    · exact h3 a ha b hb
theorem less_of {a b : ByteArray} (h : Op.bytesLess a.toList b.toList = true) : a.data.toList < b.data.toList := by
  rw [bytesLess_eq, Lib.toList_data, Lib.toList_data] at h
  exact of_decide_eq_true h
theorem more_of {a b : ByteArray} (h : Op.bytesLess a.toList b.toList = false) (hn : a ≠ b) : b.data.toList < a.data.toList := by
  rw [bytesLess_eq, Lib.toList_data, Lib.toList_data] at h
  rcases bt_tri a.data.toList b.data.toList with h1 | h1 | h1
  · exact absurd h1 (of_decide_eq_false h)
  · exact absurd (ByteArray.ext (Array.toList_inj.1 h1)) hn
  · exact h1
/-- How With ends. -/
def WithEnd (w : World) (L : List ByteArray) (s : ByteArray) (e : Ending) (w' : World) : Prop :=
  Below w.heap.size w w' ∧ ∃ v' L', e = .returned v' ∧ NV w' v' L' ∧ L'.length ≤ L.length + 1 ∧ (∀ x, x ∈ L' ↔ x ∈ L ∨ x = s) ∧ (RiseB L → RiseB L')
theorem mem_put {α : Type} (L : List α) (k : Nat) (s x : α) : x ∈ L.take k ++ [s] ++ L.drop k ↔ x ∈ L ∨ x = s := by
  have h : x ∈ L ↔ x ∈ L.take k ∨ x ∈ L.drop k := by
    conv => lhs; rw [← List.take_append_drop k L]
    exact List.mem_append
  rw [List.mem_append, List.mem_append, List.mem_singleton, h]
  constructor
  · rintro ((h | h) | h)
    · exact .inl (.inl h)
    · exact .inr h
    · exact .inl (.inr h)
  · rintro ((h | h) | h)
    · exact .inl (.inl h)
    · exact .inr h
    · exact .inl (.inr h)
theorem take_some {α : Type} {M : List α} {k j : Nat} {u : α} (h : (M.take k)[j]? = some u) : M[j]? = some u := by
  rw [List.getElem?_take] at h
  split at h
  · exact h
  · cases h
theorem with_put {w w3 : World} {L : List ByteArray} {s : ByteArray} {k : Nat} {v3 : Value} (hk : k ≤ L.length) (hS : RiseB L → RiseB (L.take k ++ [s] ++ L.drop k)) (hB : Below w.heap.size w w3) (hown : w3.ownsRow w.heap.size 9 1 v3 (L.length + 1) ((L.map fun s => Value.string s).take k ++ [.string s] ++ (L.map fun s => Value.string s).drop k)) : WithEnd w L s (.returned v3) w3 := by
  have hlen : (L.take k ++ [s] ++ L.drop k).length = L.length + 1 := by simp; omega
  refine ⟨hB, v3, L.take k ++ [s] ++ L.drop k, rfl, NV.own (B := w.heap.size) ?_ (by omega), by omega, fun x => mem_put L k s x, hS⟩
  rw [hlen]
  simpa using hown
set_option maxHeartbeats 4000000 in
set_option maxRecDepth 100000 in
theorem with_any (v : Value) (L : List ByteArray) (s : ByteArray) (w : World) (hv : NV w v L) (hl : L.length ≤ 1000) :
    Calls Tryz.prog 41 #[v, .string s] w (WithEnd w L s) := by
  obtain ⟨i0, hi, hz0, hz1, hz2⟩ := info_parts (show (Tryz.prog.info? 9).map (fun i => (i.zero, i.size, i.bytes)) = some (some (.string ⟨#[]⟩), 1, 16) by kernel_rfl)
  rcases hv with ⟨rfl, rfl⟩ | ⟨b, off, cap, rfl, h0, hc, hj⟩
  · go_enter Tryz.func41, Tryz.ntmps41
    go_wp2_with fail
    go_loopg [5] (0) (fun n si wr => si = .int .i64 0 ∧ wr = w)
    case atStart => exact ⟨rfl, rfl⟩
    case round =>
      obtain ⟨rfl, rfl⟩ := hrel
      have hO := World.ownsRow_nil (wr.alloc (.cells #[.string s] 9)) wr.heap.size 9 1
      have hB1 := below_alloc wr (.cells #[.string s] 9)
      go_wp2_with (at_builtin; first | refine wpList_append_own_none rfl _ _ _ rfl wr.heap.size 9 i0 1 Tryz.underlying30 hi (.slice none 0 0) 0 [] rfl (World.ownsRow_nil _ _ _ _) rfl ?_ | (refine wpList_append_own _ rfl _ _ _ rfl wr.heap.size 9 i0 _ 1 16 Tryz.underlying30 hi hz0 hz1 hz2 rfl (by decide) (.slice none 0 0) 0 [] rfl hO ⟨wr.heap.size, 0, none⟩ 1 1 [.string s] rfl rfl (one_news _ _ _) (str_cell _) ?d3 ?d4 ?d5 ?_))
      case d3 => unfold maxLen; omega
      case d4 => omega
      case d5 => first | exact Nat.le_refl _ | omega | (rw [alloc_size]; omega)
      intro v2 w2 hown2 hg2 _
      have hB2 := below_grown hB1 (Nat.le_refl _) hg2 (fun b hb => by cases hb)
      have HO2 := Lib.hid hown2
      have HN : Hid (WithEnd wr [] s (.returned v2) w2) := Lib.hid (with_put (k := 0) (by simp) (fun _ => by simp [RiseB, Rise]) hB2 (by simpa using hown2))
      clear hown2 hg2 hB2 hB1 hO
      go_wp2_with (at_builtin; refine wpList_append_own_none rfl _ _ _ rfl wr.heap.size 9 i0 1 Tryz.underlying30 hi v2 (0 + 1) ([] ++ [.string s]) rfl HO2.out rfl ?_)
      go_wp2_with fail
      exact bodyPost_ret (v := v2) (by simp [results, Tryz.results41, go_sem]) rfl HN.out
  · go_enter Tryz.func41, Tryz.ntmps41
    go_wp2_with fail
    go_loopg [5] (L.length) (fun n si wr => ∃ k : Nat, k + n = L.length ∧ si = .int .i64 (k : Int) ∧ wr = w ∧ Hid (∀ j, j < k → (L.getD j ByteArray.empty).data.toList < s.data.toList))
    case atStart => exact ⟨0, by omega, rfl, rfl, Lib.hid fun j hj => absurd hj (by omega)⟩
    case round =>
      obtain ⟨k, hkn, rfl, hw, HLOW⟩ := hrel
      subst hw
      have HKN := Lib.hid hkn
      have HJ := Lib.hid hj
      obtain ⟨M, hM⟩ : ∃ M, (L.map fun s => Value.string s) = M := ⟨_, rfl⟩
      have hML : M.length = L.length := by rw [← hM, List.length_map]
      have HM := Lib.hid hM
      have HC : Hid (∀ j u, M[j]? = some u → wr.cell? ⟨b, off + j, none⟩ = some u) := Lib.hid (fun j u hu => by
        rw [← hM, List.getElem?_map] at hu
        cases hx : L[j]? with
        | none => rw [hx] at hu; cases hu
        | some x =>
          rw [hx] at hu
          injection hu with hu
          rw [hj j (List.getElem?_eq_some_iff.1 hx).1, List.getD_eq_getElem?_getD, hx, ← hu]
          rfl)
      have HO : Hid (∀ u ∈ M, u.oneCell' = true) := Lib.hid (fun u hu => by rw [← hM] at hu; obtain ⟨x, _, rfl⟩ := List.mem_map.1 hu; rfl)
      have hbl := World.block_lt_of_cell? wr _ (hj 0 h0)
      clear hkn hM
      by_cases hk : k < L.length
      · have hkz : (k : Int) < (L.length : Int) := by omega
        have hcell := hj k hk
        have hx : L[k]? = some (L.getD k ByteArray.empty) := by rw [List.getD_eq_getElem?_getD, List.getElem?_eq_getElem hk]; rfl
        have HX := Lib.hid hx
        generalize L.getD k ByteArray.empty = c at *
        clear hj hx
        cases hlt : Op.bytesLess c.toList s.toList with
        | true =>
          have HL2 : Hid (∀ j, j < k + 1 → (L.getD j ByteArray.empty).data.toList < s.data.toList) := Lib.hid fun j hj => by
            by_cases hjk : j < k
            · exact HLOW.out j hjk
            · obtain rfl : j = k := by omega
              rw [List.getD_eq_getElem?_getD, HX.out]; exact less_of hlt
          go_wp2_with fail
          go_roundg (L.length - (k + 1))
          case measure => have := HKN.out; omega
          case rel => exact ⟨k + 1, by have := HKN.out; omega, by go_num, rfl, HL2⟩
        | false =>
          by_cases hcs : c = s
          · subst hcs
            have hqq : (c.toList == c.toList) = true := by simp
            have HN : Hid (WithEnd wr L c (.returned (.slice (some ⟨b, off, none⟩) L.length cap)) wr) := Lib.hid ⟨Below.refl _ _, _, L, rfl, .inr ⟨b, off, cap, rfl, h0, hc, HJ.out⟩, by omega, fun x => ⟨.inl, fun h => h.elim id (fun h => by rw [h]; exact List.mem_of_getElem? HX.out)⟩, id⟩
            go_wp2_with fail
            exact bodyPost_ret (v := .slice (some ⟨b, off, none⟩) L.length cap) (by simp [results, Tryz.results41, go_sem]) rfl HN.out
          · have hqq : (c.toList == s.toList) = false := txt_ne hcs
            have HSRT : Hid (RiseB L → RiseB (L.take k ++ [s] ++ L.drop k)) := Lib.hid (rise_put HLOW.out fun x hx => by rw [HX.out] at hx; injection hx with hx; rw [← hx]; exact more_of hlt hcs)
            have hkc : ¬ cap = k := by omega
            have hkc2 : k ≤ cap := by omega
            have HS1 : Hid (∀ j u, (M.take k)[j]? = some u → wr.cell? ((⟨b, off, none⟩ : Addr).add j) = some u) := Lib.hid (fun j u hu => by rw [Lib.add_plain]; exact HC.out j u (take_some hu))
            go_wp2_with (at_builtin; refine wpList_append_own _ rfl _ _ _ rfl wr.heap.size 9 i0 _ 1 16 Tryz.underlying30 hi hz0 hz1 hz2 rfl (by decide) (.slice none 0 0) 0 [] rfl (World.ownsRow_nil _ _ _ _) ⟨b, off, none⟩ k cap (M.take k) rfl (by rw [List.length_take, hML]; omega) HS1.out (fun u hu => HO.out u (List.mem_of_mem_take hu)) ?c3 ?c4 ?c5 ?_)
            case c3 => unfold maxLen; omega
            case c4 => omega
            intro v1 w1 hown1 hg1 _
            have hB1 := below_grown (Below.refl wr.heap.size wr) (Nat.le_refl _) hg1 (fun b hb => by cases hb)
            have hB1a := hB1.alloc hB1.size (.cells #[.string s] 9)
            have hown1a := own_later hown1 (below_alloc w1 (.cells #[.string s] 9))
            have hs1 := hB1.size
            have HO1 := Lib.hid hown1a
            have HB1 := Lib.hid hB1a
            clear hown1 hg1 hB1 hB1a hown1a
            go_wp2_with (at_builtin; refine wpList_append_own _ rfl _ _ _ rfl wr.heap.size 9 i0 _ 1 16 Tryz.underlying30 hi hz0 hz1 hz2 rfl (by decide) v1 k (M.take k) rfl HO1.out ⟨w1.heap.size, 0, none⟩ 1 1 [.string s] rfl (by rfl) (one_news _ _ _) (str_cell _) ?d3 ?d4 ?d5 ?_)
            case d3 => unfold maxLen; omega
            case d4 => omega
            case d5 => first | exact Nat.le_refl _ | omega | (rw [alloc_size]; omega)
            intro v2 w2 hown2 hg2 _
            have hB2 := below_grown HB1.out (Nat.le_refl _) hg2 (fun b hb => (own_blk HO1.out b hb).1)
            have hs2 := hB2.size
            have HO2 := Lib.hid hown2
            have HB2 := Lib.hid hB2
            have HS3 : Hid (∀ j u, (M.drop k)[j]? = some u → w2.cell? ((⟨b, off + k, none⟩ : Addr).add j) = some u) := Lib.hid (fun j u hu => by
              rw [List.getElem?_drop] at hu
              rw [Lib.add_plain, hB2.cell (p := ⟨b, off + k + j, none⟩) hbl, Nat.add_assoc]
              exact HC.out _ u hu)
            clear hown2 hg2 hB2 HO1 HB1
            go_wp2_with (at_builtin; refine wpList_append_own _ rfl _ _ _ rfl wr.heap.size 9 i0 _ 1 16 Tryz.underlying30 hi hz0 hz1 hz2 rfl (by decide) v2 (k + 1) (M.take k ++ [.string s]) rfl HO2.out ⟨b, off + k, none⟩ (L.length - k) (cap - k) (M.drop k) rfl (by rw [List.length_drop, hML]; omega) HS3.out (fun u hu => HO.out u (List.mem_of_mem_drop hu)) ?e3 ?e4 ?e5 ?_)
            case e3 => unfold maxLen; omega
            case e4 => omega
            case e5 => first | exact Nat.le_refl _ | omega | (rw [alloc_size]; omega)
            intro v3 w3 hown3 hg3 _
            have hB3 := below_grown HB2.out (Nat.le_refl _) hg3 (fun b hb => (own_blk HO2.out b hb).1)
            have HN : Hid (WithEnd wr L s (.returned v3) w3) := Lib.hid (with_put (k := k) (by omega) HSRT.out hB3 (by
              rw [HM.out]; rw [show k + 1 + (L.length - k) = L.length + 1 by omega] at hown3; simpa using hown3))
            clear hown3 hg3 hB3 HO2 HB2
            go_wp2_with fail
            exact bodyPost_ret (v := v3) (by simp [results, Tryz.results41, go_sem]) rfl HN.out
      · have hkz : ¬ (k : Int) < (L.length : Int) := by omega
        obtain rfl : k = L.length := by have := HKN.out; omega
        have HSRT : Hid (RiseB L → RiseB (L.take L.length ++ [s] ++ L.drop L.length)) := Lib.hid (rise_put HLOW.out fun x hx => by rw [List.getElem?_eq_none (Nat.le_refl _)] at hx; cases hx)
        clear hj hk HKN
        by_cases hcl : cap = L.length
        · subst hcl
          have HS1 : Hid (∀ j u, (M.take L.length)[j]? = some u → wr.cell? ((⟨b, off, none⟩ : Addr).add j) = some u) := Lib.hid (fun j u hu => by rw [Lib.add_plain]; exact HC.out j u (take_some hu))
          go_wp2_with (at_builtin; refine wpList_append_own _ rfl _ _ _ rfl wr.heap.size 9 i0 _ 1 16 Tryz.underlying30 hi hz0 hz1 hz2 rfl (by decide) (.slice none 0 0) 0 [] rfl (World.ownsRow_nil _ _ _ _) ⟨b, off, none⟩ L.length L.length (M.take L.length) rfl (by rw [List.length_take, hML]; omega) HS1.out (fun u hu => HO.out u (List.mem_of_mem_take hu)) ?c3 ?c4 ?c5 ?_)
          case c3 => unfold maxLen; omega
          case c4 => omega
          intro v1 w1 hown1 hg1 _
          have hB1 := below_grown (Below.refl wr.heap.size wr) (Nat.le_refl _) hg1 (fun b hb => by cases hb)
          have hB1a := hB1.alloc hB1.size (.cells #[.string s] 9)
          have hown1a := own_later hown1 (below_alloc w1 (.cells #[.string s] 9))
          have hs1 := hB1.size
          have HO1 := Lib.hid hown1a
          have HB1 := Lib.hid hB1a
          clear hown1 hg1 hB1 hB1a hown1a
          go_wp2_with (at_builtin; refine wpList_append_own _ rfl _ _ _ rfl wr.heap.size 9 i0 _ 1 16 Tryz.underlying30 hi hz0 hz1 hz2 rfl (by decide) v1 L.length (M.take L.length) rfl HO1.out ⟨w1.heap.size, 0, none⟩ 1 1 [.string s] rfl (by rfl) (one_news _ _ _) (str_cell _) ?d3 ?d4 ?d5 ?_)
          case d3 => unfold maxLen; omega
          case d4 => omega
          case d5 => first | exact Nat.le_refl _ | omega | (rw [alloc_size]; omega)
          intro v2 w2 hown2 hg2 _
          have hB2 := below_grown HB1.out (Nat.le_refl _) hg2 (fun b hb => (own_blk HO1.out b hb).1)
          have hs2 := hB2.size
          have HO2 := Lib.hid hown2
          have HB2 := Lib.hid hB2
          clear hown2 hg2 hB2 HO1 HB1
          go_wp2_with (at_builtin; refine wpList_append_own _ rfl _ _ _ rfl wr.heap.size 9 i0 _ 1 16 Tryz.underlying30 hi hz0 hz1 hz2 rfl (by decide) v2 (L.length + 1) (M.take L.length ++ [.string s]) rfl HO2.out ⟨b, off, none⟩ 0 0 [] rfl (by rfl) (fun j u hu => by simp at hu) (fun u hu => by cases hu) ?e3 ?e4 ?e5 ?_)
          case e3 => unfold maxLen; omega
          case e4 => omega
          case e5 => first | exact Nat.le_refl _ | omega | (rw [alloc_size]; omega)
          intro v3 w3 hown3 hg3 _
          have hB3 := below_grown HB2.out (Nat.le_refl _) hg3 (fun b hb => (own_blk HO2.out b hb).1)
          have HN : Hid (WithEnd wr L s (.returned v3) w3) := Lib.hid (with_put (k := L.length) (by omega) HSRT.out hB3 (by
            rw [HM.out, show M.drop L.length = [] from List.drop_of_length_le (by omega)]; simpa using hown3))
          clear hown3 hg3 hB3 HO2 HB2
          go_wp2_with fail
          exact bodyPost_ret (v := v3) (by simp [results, Tryz.results41, go_sem]) rfl HN.out
        · have hcl2 : L.length ≤ cap := hc
          have HS1 : Hid (∀ j u, (M.take L.length)[j]? = some u → wr.cell? ((⟨b, off, none⟩ : Addr).add j) = some u) := Lib.hid (fun j u hu => by rw [Lib.add_plain]; exact HC.out j u (take_some hu))
          go_wp2_with (at_builtin; refine wpList_append_own _ rfl _ _ _ rfl wr.heap.size 9 i0 _ 1 16 Tryz.underlying30 hi hz0 hz1 hz2 rfl (by decide) (.slice none 0 0) 0 [] rfl (World.ownsRow_nil _ _ _ _) ⟨b, off, none⟩ L.length cap (M.take L.length) rfl (by rw [List.length_take, hML]; omega) HS1.out (fun u hu => HO.out u (List.mem_of_mem_take hu)) ?c3 ?c4 ?c5 ?_)
          case c3 => unfold maxLen; omega
          case c4 => omega
          intro v1 w1 hown1 hg1 _
          have hB1 := below_grown (Below.refl wr.heap.size wr) (Nat.le_refl _) hg1 (fun b hb => by cases hb)
          have hB1a := hB1.alloc hB1.size (.cells #[.string s] 9)
          have hown1a := own_later hown1 (below_alloc w1 (.cells #[.string s] 9))
          have hs1 := hB1.size
          have HO1 := Lib.hid hown1a
          have HB1 := Lib.hid hB1a
          clear hown1 hg1 hB1 hB1a hown1a
          go_wp2_with (at_builtin; refine wpList_append_own _ rfl _ _ _ rfl wr.heap.size 9 i0 _ 1 16 Tryz.underlying30 hi hz0 hz1 hz2 rfl (by decide) v1 L.length (M.take L.length) rfl HO1.out ⟨w1.heap.size, 0, none⟩ 1 1 [.string s] rfl (by rfl) (one_news _ _ _) (str_cell _) ?d3 ?d4 ?d5 ?_)
          case d3 => unfold maxLen; omega
          case d4 => omega
          case d5 => first | exact Nat.le_refl _ | omega | (rw [alloc_size]; omega)
          intro v2 w2 hown2 hg2 _
          have hB2 := below_grown HB1.out (Nat.le_refl _) hg2 (fun b hb => (own_blk HO1.out b hb).1)
          have hs2 := hB2.size
          have HO2 := Lib.hid hown2
          have HB2 := Lib.hid hB2
          clear hown2 hg2 hB2 HO1 HB1
          go_wp2_with (at_builtin; refine wpList_append_own _ rfl _ _ _ rfl wr.heap.size 9 i0 _ 1 16 Tryz.underlying30 hi hz0 hz1 hz2 rfl (by decide) v2 (L.length + 1) (M.take L.length ++ [.string s]) rfl HO2.out ⟨b, off + L.length, none⟩ 0 (cap - L.length) [] rfl (by rfl) (fun j u hu => by simp at hu) (fun u hu => by cases hu) ?e3 ?e4 ?e5 ?_)
          case e3 => unfold maxLen; omega
          case e4 => omega
          case e5 => first | exact Nat.le_refl _ | omega | (rw [alloc_size]; omega)
          intro v3 w3 hown3 hg3 _
          have hB3 := below_grown HB2.out (Nat.le_refl _) hg3 (fun b hb => (own_blk HO2.out b hb).1)
          have HN : Hid (WithEnd wr L s (.returned v3) w3) := Lib.hid (with_put (k := L.length) (by omega) HSRT.out hB3 (by
            rw [HM.out, show M.drop L.length = [] from List.drop_of_length_le (by omega)]; simpa using hown3))
          clear hown3 hg3 hB3 HO2 HB2
          go_wp2_with fail
          exact bodyPost_ret (v := v3) (by simp [results, Tryz.results41, go_sem]) rfl HN.out
mutual
theorem nm_len : ∀ e : Ex, (nmE e).length ≤ nodes e
  | .mk op n s ks => by
    rw [nmE, nodes]
    split
    · first | (simp; done) | (simp; omega)
    · have := nm_lenL ks; omega
theorem nm_lenL : ∀ es : List Ex, (nmL es).length ≤ nodesL es
  | [] => by rw [nmL, nodesL]; simp
  | e :: es => by
    rw [nmL, nodesL, List.length_append]
    have := nm_len e
    have := nm_lenL es
    omega
end
theorem nmL_take {ks : List Ex} {i : Nat} (h : i < ks.length) : nmL (ks.take (i + 1)) = nmL (ks.take i) ++ nmE ks[i] := by
  rw [List.take_add_one, List.getElem?_eq_getElem h, Option.toList_some, nmL_snoc]
theorem nmL_take_le (ks : List Ex) (i : Nat) : (nmL (ks.take i)).length ≤ (nmL ks).length := by
  induction ks generalizing i with
  | nil => simp
  | cons e es ih =>
    cases i with
    | zero => rw [List.take_zero, nmL]; simp
    | succ i => rw [List.take_succ_cons, nmL, nmL, List.length_append, List.length_append]; have := ih i; omega
/-- How Names ends. -/
def NamesEnd (w : World) (e : Ex) (en : Ending) (w' : World) : Prop :=
  Below w.heap.size w w' ∧ ∃ v' L', en = .returned v' ∧ NV w' v' L' ∧ L'.length ≤ (nmE e).length ∧ ∀ x, x ∈ L' ↔ x ∈ nmE e
def NamesEndR (w : World) (e : Ex) (en : Ending) (w' : World) : Prop :=
  Below w.heap.size w w' ∧ ∃ v' L', en = .returned v' ∧ NV w' v' L' ∧ L'.length ≤ (nmE e).length ∧ (∀ x, x ∈ L' ↔ x ∈ nmE e) ∧ RiseB L'
/-- While the kids' names are laid together. -/
def KNam (w wr : World) (v : Value) (ks : List Ex) (i : Nat) (J : List ByteArray) : Prop :=
  Below w.heap.size w wr ∧ ∃ Lc, NV wr v Lc ∧ Lc.length ≤ (nmL (ks.take i)).length + J.length ∧ (∀ x, x ∈ Lc ↔ x ∈ nmL (ks.take i) ∨ x ∈ J) ∧ RiseB Lc
theorem NV.cap {w : World} {v : Value} {L : List ByteArray} (h : NV w v L) : ∃ ao cap, v = .slice ao L.length cap ∧ (0 < L.length → ∃ b off, ao = some ⟨b, off, none⟩ ∧ ∀ j, j < L.length → w.cell? ⟨b, off + j, none⟩ = some (.string (L.getD j ByteArray.empty))) := by
  rcases h with ⟨rfl, rfl⟩ | ⟨b, off, cap, rfl, h0, hc, hj⟩
  · exact ⟨none, 0, rfl, fun h => absurd h (by simp)⟩
  · exact ⟨_, cap, rfl, fun _ => ⟨b, off, rfl, hj⟩⟩
set_option maxHeartbeats 8000000 in
set_option maxRecDepth 100000 in
theorem names_rise : ∀ (F : Nat) (e : Ex), nodes e ≤ F → nodes e ≤ 1000 → ∀ (v : Value) (S : Nat → Prop) (w : World), ExIn w S e v →
    Calls Tryz.prog 14 #[v] w (NamesEndR w e)
  | 0, e, hF, _, _, _, _, _ => absurd hF (by have := nodes_pos e; omega)
  | F + 1, .mk op m s ks, hF, hN, v, S, w, hv => by
    have IH := names_rise F
    have hnl := nm_lenL ks
    have hnN : nodesL ks + 1 ≤ 1000 := by rw [nodes] at hN; omega
    have hnF : nodesL ks ≤ F := by rw [nodes] at hF; omega
    obtain ⟨ao, cap, rfl, h2, h3, hr, hk⟩ := hv.get
    unfold Ex.op Ex.num Ex.str Ex.kids at *
    dsimp only at *
    have hX := four_new w (.int .i64 op) (.int .i64 m) (.string ⟨s.toArray⟩) (.slice ao ks.length cap) 24
    have hbX := below_alloc w (.cells #[.int .i64 op, .int .i64 m, .string ⟨s.toArray⟩, .slice ao ks.length cap] 24)
    have hkX : 0 < ks.length → ∃ g2 o, ao = some ⟨g2, o, none⟩ ∧ S g2 ∧ g2 < (w.alloc (.cells #[.int .i64 op, .int .i64 m, .string ⟨s.toArray⟩, .slice ao ks.length cap] 24)).heap.size ∧ RowIn (w.alloc (.cells #[.int .i64 op, .int .i64 m, .string ⟨s.toArray⟩, .slice ao ks.length cap] 24)) S g2 o ks := fun h0 => by
      obtain ⟨g2, o, a, b, c, r⟩ := hk h0
      exact ⟨g2, o, a, b, Nat.lt_of_lt_of_le c hbX.size, RowIn.stays (.of hbX) ks g2 o b c r⟩
    obtain ⟨wX, hwX⟩ : ∃ wX, w.alloc (.cells #[.int .i64 op, .int .i64 m, .string ⟨s.toArray⟩, .slice ao ks.length cap] 24) = wX := ⟨_, rfl⟩
    rw [hwX] at hX hbX hkX
    have HX := Lib.hid hX
    have HBX := Lib.hid hbX
    have HK := Lib.hid hkX
    obtain ⟨-, x0, x1, x2, x3, -⟩ := hX
    by_cases h4 : op = 4
    · subst h4
      clear hv hk hkX hbX IH
      obtain ⟨T, hT⟩ : ∃ T : ByteArray, ⟨s.toArray⟩ = T := ⟨_, rfl⟩
      have HEND : Hid (NamesEndR w (.mk 4 m s ks) (.returned (.slice (some ⟨wX.heap.size, 0, none⟩) 1 1)) (wX.alloc (.cells #[.string T] 9))) := Lib.hid (by
        have hB := below_alloc wX (.cells #[.string T] 9)
        have hc := cells_of_alloc wX #[.string T] 9
        refine ⟨below_to HBX.out hB, _, [T], rfl, .inr ⟨wX.heap.size, 0, 1, rfl, by simp, by simp, fun j hj => ?_⟩, ?_, fun x => ?_, ?_⟩
        · match j, hj with
          | 0, _ => exact hc 0
        · rw [nmE, if_pos rfl]; simp
        · rw [nmE, if_pos rfl, hT]
        · simp [RiseB, Rise])
      rw [hT] at x2
      clear hT HX HK HBX
      go_enter Tryz.func14, Tryz.ntmps14
      go_wp2_with fail
      exact bodyPost_ret (v := .slice (some ⟨wX.heap.size, 0, none⟩) 1 1) (by simp [results, Tryz.results14, go_sem]) rfl HEND.out
    · have h4b : (op == 4) = false := by simpa using h4
      have HNM := Lib.hid (show nmE (.mk op m s ks) = nmL ks by rw [nmE, if_neg h4])
      have HR : Hid (KNam wX wX (.slice none 0 0) ks 0 []) := Lib.hid ⟨Below.refl _ _, [], NV.nil _, by simp, fun x => by simp [nmL], by simp [RiseB, Rise]⟩
      have HNL := Lib.hid hnl
      have HNN := Lib.hid hnN
      clear hv hk hkX hbX h4 hnl hnN
      generalize (⟨s.toArray⟩ : ByteArray) = T at *
      go_enter Tryz.func14, Tryz.ntmps14
      go_wp2_with fail
      go_loopg [3, 4, 5, 6] (ks.length) (fun a s3 s4 s5 s6 wr => ∃ i : Nat, i + a = ks.length ∧ s4 = .int .i64 (i : Int) ∧ Hid (KNam wX wr s3 ks i []))
      case atStart => exact ⟨0, by omega, rfl, HR⟩
      case round =>
        obtain ⟨i, hia, rfl, HW⟩ := hrel
        have HIA := Lib.hid hia
        clear HR
        obtain ⟨-, y0, y1, y2, y3, -⟩ := HX.out.later HW.out.1
        by_cases hik : i < ks.length
        · have hiz : (i : Int) < (ks.length : Int) := by omega
          obtain ⟨g2, o, rfl, hS, hg, hrow⟩ := HK.out (by omega)
          have hx : ks[i]? = some ks[i] := List.getElem?_eq_getElem hik
          have hrow2 := RowIn.stays (.of HW.out.1) ks g2 o hS hg hrow
          obtain ⟨v0, v1, v2, v3, c0, c1, c2, c3, he⟩ := hrow2.at hx
          obtain ⟨ao2, cap2, hev, -⟩ := he.get
          obtain ⟨rfl, rfl, rfl, rfl⟩ := agg4 hev
          clear hev
          have hgr : g2 < wr.heap.size := Nat.lt_of_lt_of_le hg HW.out.1.size
          have hkn := nodes_kid (List.getElem_mem hik)
          have cI := IH ks[i] (by omega) (by have := HNN.out; omega) _ S wr he
          have hnt := nmL_take hik
          have HT := Lib.hid hnt
          clear hrow hrow2 he hx hkn hnt hia
          go_wp2_with fail
          refine cI.mono ?_
          rintro en w1 ⟨b1, v', K, rfl, hnv, hkl, hkm, -⟩
          obtain ⟨ao3, cap3, rfl, hK3⟩ := hnv.cap
          have HK3 := Lib.hid hK3
          have HKL := Lib.hid hkl
          have HKM := Lib.hid hkm
          have B1 := Lib.hid (below_to HW.out.1 b1)
          have HR1 : Hid (KNam wX w1 u3 ks i (K.take 0)) := Lib.hid (by
            obtain ⟨h1, Lc, h2, h3, h4, h9⟩ := HW.out
            exact ⟨below_to h1 b1, Lc, h2.later b1, by simpa using h3, by simpa using h4, h9⟩)
          clear cI b1 hnv hkl hkm hK3 y0 y1 y2 y3 c0 c1 c2 c3
          go_wp2_with fail
          go_loopg [3, 6] (K.length) (fun q s3 s6 wz => ∃ j : Nat, j + q = K.length ∧ s6 = .int .i64 (j : Int) ∧ Hid (KNam wX wz s3 ks i (K.take j)) ∧ Hid (Below w1.heap.size w1 wz))
          case atStart => exact ⟨0, by omega, rfl, HR1, Lib.hid (Below.refl _ _)⟩
          case round =>
            obtain ⟨j, hja, rfl, HZ, HBZ⟩ := hrel
            have HJA := Lib.hid hja
            clear HR1
            by_cases hjk : j < K.length
            · have hjz : (j : Int) < (K.length : Int) := by omega
              obtain ⟨b, off, rfl, hcell⟩ := HK3.out (by omega)
              have hc := (HBZ.out.cell (p := ⟨b, off + j, none⟩) (World.block_lt_of_cell? w1 _ (hcell j hjk))).trans (hcell j hjk)
              rw [List.getD_eq_getElem?_getD, List.getElem?_eq_getElem hjk, Option.getD_some] at hc
              obtain ⟨h1, Lc, h2, h3, h5, h9⟩ := HZ.out
              have hlen : (nmL (ks.take i)).length + K.length ≤ (nmL ks).length := by
                have e1 := nmL_take_le ks (i + 1)
                rw [HT.out, List.length_append] at e1
                have := HKL.out
                omega
              have hjb : K.length ≤ 1000 := by have := HNL.out; have := HNN.out; omega
              have hjt : (K.take j).length = j := by rw [List.length_take]; omega
              have cW := with_any _ Lc K[j] _ h2 (by have := HNL.out; have := HNN.out; omega)
              have H3 := Lib.hid h3
              have H5 := Lib.hid h5
              have H9 := Lib.hid h9
              have HTK := Lib.hid (show K.take (j + 1) = K.take j ++ [K[j]] by rw [List.take_add_one, List.getElem?_eq_getElem hjk]; rfl)
              generalize K[j] = x at *
              clear h1 h2 h3 h5 h9 hlen hjt hcell hja
              go_wp2_with fail
              refine cW.mono ?_
              rintro en w3 ⟨b3, v3, L3, rfl, hv3, hl3, hm3, hs3⟩
              have HN3 : Hid (KNam wX w3 v3 ks i (K.take (j + 1))) := Lib.hid ⟨below_to HZ.out.1 b3, L3, hv3, by
                rw [HTK.out, List.length_append, List.length_singleton]; have := H3.out; omega, fun y => by
                rw [HTK.out, List.mem_append, List.mem_singleton, hm3, H5.out]
                constructor
                · rintro ((h | h) | h)
                  · exact .inl h
                  · exact .inr (.inl h)
                  · exact .inr (.inr h)
                · rintro (h | h | h)
                  · exact .inl (.inl h)
                  · exact .inl (.inr h)
                  · exact .inr h, hs3 H9.out⟩
              have HB3 := Lib.hid (below_to HBZ.out b3)
              clear b3 hv3 hl3 hm3 hs3 cW
              go_wp2_with fail
              go_roundg (K.length - (j + 1))
              case measure => have := HJA.out; omega
              case rel => exact ⟨j + 1, Nat.add_sub_of_le hjk, by go_num, HN3, HB3⟩
            · have hjz : ¬ (j : Int) < (K.length : Int) := by omega
              have HN3 : Hid (KNam wX wr u3 ks (i + 1) []) := Lib.hid (by
                obtain ⟨h1, Lc, h2, h3, h5, h9⟩ := HZ.out
                have hjt : K.take j = K := List.take_of_length_le (by omega)
                rw [hjt] at h3 h5
                refine ⟨h1, Lc, h2, ?_, fun x => ?_, h9⟩
                · rw [HT.out, List.length_append]; have := HKL.out; simp only [List.length_nil]; omega
                · rw [h5, HT.out, List.mem_append, HKM.out]; simp)
              clear hja
              go_wp2_with fail
              go_roundg (ks.length - (i + 1))
              case measure => have := HIA.out; omega
              case rel => exact ⟨i + 1, by have := HIA.out; omega, by go_num, HN3⟩
        · have hiz : ¬ (i : Int) < (ks.length : Int) := by omega
          have HEND : Hid (NamesEndR w (.mk op m s ks) (.returned u3) wr) := Lib.hid (by
            obtain ⟨h1, Lc, h2, h3, h5, h9⟩ := HW.out
            have hit : ks.take i = ks := List.take_of_length_le (by omega)
            rw [hit] at h3 h5
            exact ⟨below_to HBX.out h1, u3, Lc, rfl, h2, by rw [HNM.out]; simpa using h3, fun x => by rw [HNM.out, h5]; simp, h9⟩)
          clear hia
          go_wp2_with fail
          exact bodyPost_ret (v := u3) (by simp [results, Tryz.results14, go_sem]) rfl HEND.out
theorem names_all (F : Nat) (e : Ex) (hF : nodes e ≤ F) (hN : nodes e ≤ 1000) (v : Value) (S : Nat → Prop) (w : World) (hv : ExIn w S e v) : Calls Tryz.prog 14 #[v] w (NamesEnd w e) :=
  (names_rise F e hF hN v S w hv).mono fun _ _ ⟨h1, v', L', h2, h3, h4, h5, _⟩ => ⟨h1, v', L', h2, h3, h4, h5⟩
end Go.Proofs.YtbbblmedoagncaaGreatDoor
