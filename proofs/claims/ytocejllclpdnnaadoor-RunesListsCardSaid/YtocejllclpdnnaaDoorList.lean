/- The contract of runes.List: for every string of at most 2^44 bytes it returns a slice of the call's own that holds the pieces' runes. -/
import Derived.Test.YtocejllclpdnnaaDoorFold
import Derived.Laws.AppendOwn
import Derived.Laws.MakeOwn
import Derived.Deep.DeepFit
namespace Go.Proofs.YtocejllclpdnnaaDoor
open Go.RowKit

theorem own_iterAt {w : World} {B : Nat} {e : TypeId} {z : Nat} {v : Value} {n : Nat} {xs : List Value} (h : w.ownsRow B e z v n xs) {k : Nat} {s : ByteArray} {pos : Nat} (hk : w.heap[k]? = some (.stringIter s pos)) (pos' : Nat) : (w.iterAt k s pos').ownsRow B e z v n xs := by
  refine ⟨h.1, ?_⟩
  rcases h.2 with hn | ⟨g, cap, cur, hv, hbg, hg, rest⟩
  · exact .inl hn
  · have hkg : g ≠ k := by intro e1; rw [e1, hk] at hg; cases hg
    exact .inr ⟨g, cap, cur, hv, hbg, (Lib.iterAt_other w k g s pos' hkg).trans hg, rest⟩
theorem own_later {w w' : World} {B : Nat} {e : TypeId} {z : Nat} {v : Value} {n : Nat} {xs : List Value} (h : w.ownsRow B e z v n xs) (hb : Below w.heap.size w w') : w'.ownsRow B e z v n xs := by
  refine ⟨h.1, ?_⟩
  rcases h.2 with hn | ⟨g, cap, cur, hv, hbg, hg, rest⟩
  · exact .inl hn
  · exact .inr ⟨g, cap, cur, hv, hbg, (hb.block g (Array.getElem?_eq_some_iff.1 hg).1).trans hg, rest⟩
/-- An iterator's block is no block of a row's. -/
theorem iter_ne {w : World} {B : Nat} {e : TypeId} {z : Nat} {v : Value} {n : Nat} {xs : List Value} (h : w.ownsRow B e z v n xs) {k : Nat} {s : ByteArray} {pos : Nat} (hk : w.heap[k]? = some (.stringIter s pos)) : some k ≠ v.ownBlock := by
  rcases h.2 with ⟨rfl, _⟩ | ⟨g, cap, cur, rfl, hbg, hg, rest⟩
  · simp [Value.ownBlock]
  · simp only [Value.ownBlock, ne_eq, Option.some.injEq]
    intro e1; rw [← e1, hk] at hg; cases hg

/-- What a slice of the call's own is, and where its elements lie. -/
theorem own_slice {w : World} {B : Nat} {e : TypeId} {v : Value} {n : Nat} {xs : List Value} (h : w.ownsRow B e 1 v n xs) :
    ∃ ao cap, v = .slice ao n cap ∧ n ≤ cap ∧ cap ≤ maxLen ∧ (0 < n → ∃ g, ao = some ⟨g, 0, none⟩ ∧ g < w.heap.size ∧ ∀ j u, xs[j]? = some u → w.cell? ⟨g, j, none⟩ = some u) := by
  have h' := h
  rcases h.2 with ⟨rfl, hn⟩ | ⟨g, cap, cur, rfl, hbg, hg, hnc, hcm, rest⟩
  · exact ⟨none, 0, by rw [hn], by omega, by unfold maxLen; omega, fun hp => absurd hp (by omega)⟩
  · refine ⟨_, cap, rfl, hnc, hcm, fun _ => ⟨g, rfl, (Array.getElem?_eq_some_iff.1 hg).1, fun j u hu => ?_⟩⟩
    have := h'.cells (g := g) rfl j u hu
    have e : (⟨g, 0, none⟩ : Addr).add j = ⟨g, j, none⟩ := by unfold Addr.add; split <;> simp_all
    rwa [e] at this

def runeVals (rs : List Nat) : List Value := rs.map fun r : Nat => Value.int .i32 (r : Int)
theorem runeVals_len (rs : List Nat) : (runeVals rs).length = rs.length := by simp [runeVals]
theorem runeVals_snoc (rs : List Nat) (r : Nat) : runeVals rs ++ [Value.int .i32 r] = runeVals (rs ++ [r]) := by simp [runeVals]
theorem runesL_nil : runesL [] = [] := rfl
theorem runesL_at (s : ByteArray) (pos : Nat) (h : pos < s.size) : runesL (s.data.toList.drop pos) = (Utf8.decode s pos).1 :: runesL (s.data.toList.drop (pos + (Utf8.decode s pos).2)) := by
  unfold runesL
  rw [pcs_step _ (drop_ne s pos h), List.map_cons, Lib.decodeL_drop, List.drop_drop]
theorem runesL_len (l : List UInt8) : (runesL l).length = countL l := by simp [runesL, countL]

def ListRel (s : ByteArray) (B K : Nat) (w wr : World) (pos : Nat) (v : Value) (rs : List Nat) : Prop :=
  wr.ownsRow B 21 1 v rs.length (runeVals rs) ∧ wr.heap[K]? = some (.stringIter s pos) ∧ Below B w wr ∧ rs ++ runesL (s.data.toList.drop pos) = runesL s.data.toList ∧ rs.length ≤ pos ∧ pos ≤ s.size
def ListEnd (s : ByteArray) (w : World) (e : Ending) (w' : World) : Prop :=
  ∃ v, e = .returned v ∧ w'.ownsRow w.heap.size 21 1 v (runesL s.data.toList).length (runeVals (runesL s.data.toList)) ∧ Below w.heap.size w w'

set_option maxHeartbeats 4000000 in
set_option maxRecDepth 1000000 in
theorem list_any (s : ByteArray) (w : World) (hs : s.size ≤ 17592186044416) :
    Calls Tryd.prog 15 #[.string s] w (ListEnd s w) := by
  obtain ⟨i0, hi, hz0, hz1, hz2⟩ := info_parts (show (Tryd.prog.info? 21).map (fun i => (i.zero, i.size, i.bytes)) = some (some (.int .i32 0), 1, 4) by kernel_rfl)
  have hcl := Lib.runeCount_le s
  go_enter Tryd.func15, Tryd.ntmps15
  go_wp2_with fail
  refine (count_any s _ (by omega)).mono ?_
  rintro e w1 ⟨rfl, hb1⟩
  obtain ⟨wM, hmk, hown, hgrow⟩ := run_make_own (P := Tryd.prog) w1 w.heap.size 24 21 i0 (.int .i32 0) 1 Tryd.underlying24 hi hz0 hz1 .i64 .i64 (Lib.runeCount s) (by rw [hz2]; omega) (by unfold maxLen; omega) hb1.size
  have hbM : Below w.heap.size w wM := hb1.grown hgrow hb1.size (fun _ h => by cases h)
  have h0 : ListRel s w.heap.size wM.heap.size w (wM.iter s 0) 0 (.slice (some ⟨w1.heap.size, 0, none⟩) 0 (Lib.runeCount s)) [] :=
    ⟨hown.alloc _, World.iter_heap wM s 0, hbM.alloc hbM.size _, rfl, Nat.le_refl _, Nat.zero_le _⟩
  have hM := hbM.size
  have H0 := Lib.hid h0
  clear h0 hown hgrow hbM hb1 hcl
  go_wp2
  go_loopw [3] (fun v wr => ∃ pos rs, ListRel s w.heap.size wM.heap.size w wr pos v rs) (fun _ wr => s.size - wr.iterPos wM.heap.size)
  case atStart => exact ⟨0, [], H0.out⟩
  case round =>
    rename_i v3
    obtain ⟨pos, rs, hown, hit, hbw, hacc, hal, hps⟩ := hrel
    have hsz : wM.heap.size < wr.heap.size := (Array.getElem?_eq_some_iff.1 hit).1
    have hip : wr.iterPos wM.heap.size = pos := by simp only [World.iterPos, hit]
    have HIP := Lib.hid hip
    have HACC := Lib.hid hacc
    clear hip hacc
    by_cases hp : pos < s.size
    · have hnx : ∀ ty, (Instr.next (.pointer (some ⟨wM.heap.size, 0, none⟩)) true ty).run Tryd.prog wr = _ := fun ty => Lib.run_next_any_at wr wM.heap.size s pos ty hit hp
      obtain ⟨hw1, hw2⟩ := width_in s pos hp
      have hit2 := Lib.iterAt_heap wr wM.heap.size s pos (pos + (Utf8.decode s pos).2) hit
      have hown2 := own_iterAt hown hit (pos + (Utf8.decode s pos).2)
      have hbw2 := Lib.below_iterAt hbw (k := wM.heap.size) hM s (pos + (Utf8.decode s pos).2)
      have hsz2 : w.heap.size ≤ (wr.iterAt wM.heap.size s (pos + (Utf8.decode s pos).2)).heap.size := by rw [Lib.iterAt_size]; omega
      have hlt2 : wM.heap.size < (wr.iterAt wM.heap.size s (pos + (Utf8.decode s pos).2)).heap.size := by rw [Lib.iterAt_size]; omega
      have hst := Lib.hid (runesL_at s pos hp)
      have HOWN := Lib.hid hown2
      have HIT2 := Lib.hid hit2
      have HBW2 := Lib.hid hbw2
      obtain ⟨W, hW⟩ : ∃ W, wr.iterAt wM.heap.size s (pos + (Utf8.decode s pos).2) = W := ⟨_, rfl⟩
      rw [hW] at hnx HOWN HIT2 HBW2 hsz2 hlt2
      clear hit hown hbw hit2 hown2 hbw2 hW
      go_wp2_with (at_builtin; refine wpList_append_own _ rfl _ _ 24 rfl w.heap.size 21 i0 (.int .i32 0) 1 4 Tryd.underlying24 hi hz0 hz1 hz2 rfl (by decide) _ _ _ rfl (HOWN.out.alloc _) ⟨W.heap.size, 0, none⟩ 1 1 [.int .i32 (Utf8.decode s pos).1] rfl rfl ?c1 ?c2 ?c3 ?c4 ?c5 ?_)
      case c1 =>
        intro j u hj
        match j, hj with
        | 0, hj => simp at hj; subst hj; simp [Addr.add]
        | j + 1, hj => simp at hj
      case c2 => intro u hu; simp at hu; subst hu; rfl
      case c3 => unfold maxLen; omega
      case c4 => omega
      case c5 => rw [alloc_size]; omega
      intro v' w2 hown' hgrow' _
      have hne := iter_ne HOWN.out HIT2.out
      rw [runeVals_snoc] at hown'
      have hit3 : w2.heap[wM.heap.size]? = some (.stringIter s (pos + (Utf8.decode s pos).2)) := by
        rw [hgrow'.block wM.heap.size (by rw [alloc_size]; omega) hne, Below.heap_alloc _ _ _ hlt2]; exact HIT2.out
      have hbw3 : Below w.heap.size w w2 := (HBW2.out.alloc hsz2 _).grown hgrow' (by rw [alloc_size]; omega) (fun k hk => (HOWN.out.lt k hk).1)
      go_wp2
      go_roundw
      case rel =>
        refine ⟨pos + (Utf8.decode s pos).2, rs ++ [(Utf8.decode s pos).1], ?_, hit3, hbw3, ?_, ?_, hw2⟩
        · rw [List.length_append]; exact hown'
        · rw [List.append_assoc, List.singleton_append, ← hst.out]; exact HACC.out
        · rw [List.length_append, List.length_singleton]; omega
      case measure =>
        rw [HIP.out]
        simp only [World.iterPos, hit3]
        omega
    · have hnx : ∀ ty, (Instr.next (.pointer (some ⟨wM.heap.size, 0, none⟩)) true ty).run Tryd.prog wr = _ := fun ty => Lib.run_next_end_at wr wM.heap.size s pos ty hit hp
      have hfin := HACC.out
      rw [drop_nil s pos hp, runesL_nil, List.append_nil] at hfin
      have HFIN := Lib.hid hfin
      have HOWN := Lib.hid hown
      clear hfin hown hit
      go_wp2
      go_ret
      have := HFIN.out
      subst this
      exact ⟨_, rfl, HOWN.out, hbw⟩
end Go.Proofs.YtocejllclpdnnaaDoor
