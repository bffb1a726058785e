/- Several texts in one: RtL0, RtL. -/
import Derived.Test.YtindkpfmflcibaaGreatDoorRB
import Derived.Test.YtindkpfmflcibaaGreatDoorRA
import Derived.Test.YtindkpfmflcibaaGreatDoorSE
import Derived.Test.YtindkpfmflcibaaGreatDoorWC
import Derived.Deep.CutRange
import Derived.Deep.RegionWith
import Derived.BigQuiet
import Derived.Deep.QuietTactic
namespace Go.Proofs.YtindkpfmflcibaaGreatDoor
/- The document's Load. Printed by gen/rtload.py. -/
section
open Go.RowKit
set_option linter.unusedSimpArgs false

/-- No byte. -/
def nu (u : Value) : Prop := ∀ c, u ≠ .int .u8 c
theorem nu_ocs (s : Se) : ∀ u ∈ ocs s, nu u := fun u hu c => by
  simp only [ocs, List.mem_cons, List.not_mem_nil, or_false] at hu
  rcases hu with rfl | rfl | rfl | rfl | rfl | rfl | rfl | rfl <;> simp
theorem nu_ocl (L : List Se) : ∀ u ∈ ocl L, nu u := fun u hu => by
  obtain ⟨s, -, hu⟩ := List.mem_flatMap.1 hu
  exact nu_ocs s u hu
theorem nu_zero (n : Nat) : ∀ u ∈ (Builtin.zeroCells (Value.agg #[.int .i64 0, .int .i64 0, .int .i64 0, .int .i64 0, .int .i64 0, .int .i64 0, .int .i64 0, .string ⟨#[]⟩]).cells n).toList, nu u := fun u hu c => by
  unfold Builtin.zeroCells at hu
  rw [Array.toList_map, List.mem_map] at hu
  obtain ⟨i, -, rfl⟩ := hu
  show (#[Value.int .i64 0, .int .i64 0, .int .i64 0, .int .i64 0, .int .i64 0, .int .i64 0, .int .i64 0, .string ⟨#[]⟩] : Array Value)[i % 8]! ≠ _
  have h : i % 8 = 0 ∨ i % 8 = 1 ∨ i % 8 = 2 ∨ i % 8 = 3 ∨ i % 8 = 4 ∨ i % 8 = 5 ∨ i % 8 = 6 ∨ i % 8 = 7 := by omega
  rcases h with h | h | h | h | h | h | h | h <;> rw [h] <;> simp
/-- The row's block holds no byte. -/
def NuRow (w : World) (v : Value) : Prop := ∀ g, v.ownBlock = some g → ∃ cur, w.heap[g]? = some (.cells cur 56 (0, 0)) ∧ ∀ u ∈ cur.toList, nu u
theorem NuRow.same {w w' : World} {v : Value} (h : NuRow w v) (hb : ∀ g, v.ownBlock = some g → w'.heap[g]? = w.heap[g]?) : NuRow w' v := fun g hg => by
  obtain ⟨cur, h1, h2⟩ := h g hg
  exact ⟨cur, (hb g hg).trans h1, h2⟩
theorem run_app_u (w : World) (ty : TypeId) (B : Nat) (hB : B ≤ w.heap.size) (v : Value) (L : List Se) (s : Se) (hown : w.ownsRow B 56 8 v L.length (ocl L)) (hnu : NuRow w v) (hl : L.length ≤ 900) (b c : Nat) (hM : OM w (some ⟨b, 0, none⟩) [s]) :
    ∃ v' w', (Builtin.append_ #[27, 27] ty #[v, .slice (some ⟨b, 0, none⟩) 1 c]).run Tryz.prog w = .ok v' w' ∧ AppT w B v (L ++ [s]) v' w' ∧ NuRow w' v' := by
  obtain ⟨v', w', hr, hA⟩ := run_app_t w ty B hB v L [s] hown (by show _ + 1 ≤ _; omega) (some ⟨b, 0, none⟩) c hM
  refine ⟨v', w', hr, hA, ?_⟩
  obtain ⟨i0, hi, hz0, hz1, hz2⟩ := info_parts (show (Tryz.prog.info? 56).map (fun i => (i.zero, i.size, i.bytes)) = some (some (.agg #[.int .i64 0, .int .i64 0, .int .i64 0, .int .i64 0, .int .i64 0, .int .i64 0, .int .i64 0, .string ⟨#[]⟩]), 8, 72) by kernel_rfl)
  have ht := Tryz.underlying27
  obtain ⟨b', off', e', hlt, hc⟩ := hM (by show 0 < 1; decide)
  injection e' with e'
  injection e' with e1 e2
  subst e1 e2
  have hsrc : Src Tryz.prog i0.size 27 (.slice (some ⟨b, 0, none⟩) 1 c) 1 (ocs s) w := Src.ofSlice _ ht ⟨b, 0, none⟩ 1 c (ocs s) (by rw [hz1]; rfl) (fun j u hu => by
    have := hc j u (by show (ocs s ++ [])[j]? = _; rw [List.append_nil]; exact hu)
    rwa [Go.Lib.add_plain]) (fun u hu => ocl_one (L := [s]) u (by show u ∈ ocs s ++ []; rw [List.append_nil]; exact hu))
  have key : ∀ (base : Option Addr) (n cap : Nat) (olds : List Value), v = .slice base n cap → cap < n + 1 → n ≤ 900 → (∀ u ∈ olds, nu u) → (Builtin.firstCells i0.size n (.slice base n cap)).run Tryz.prog w.drew = .ok olds.toArray w.drew → NuRow w' v' := fun base n cap olds hv hcap hn hu hf => by
    have hg := run_append_grow_src (P := Tryz.prog) w 27 27 ty 56 i0 _ ht hi hz0 base n cap olds hf _ 1 (ocs s) hsrc hcap (by omega) (growslice_fits hcap (by rw [hz2]; omega))
    have hr' := hr
    rw [hv] at hr'
    have hr2 := hr'.symm.trans hg
    injection hr2 with h1 h2
    subst h1 h2
    intro g hg'
    have hg2 : w.heap.size = g := Option.some.inj hg'
    subst hg2
    refine ⟨_, heap_alloc_new w.drew _, fun u hm => ?_⟩
    rw [Array.toList_append, List.mem_append] at hm
    rcases hm with hm | hm
    · rcases List.mem_append.1 (show u ∈ olds ++ ocs s from hm) with hm | hm
      · exact hu u hm
      · exact nu_ocs s u hm
    · exact nu_zero _ u hm
  rcases hown.2 with ⟨hv, h0⟩ | ⟨g, cap, cur, hv, hbg, hg, hnc, hcm, hcs, htake⟩
  · exact key none 0 0 [] hv (by omega) (by omega) (fun _ h => by cases h) (run_firstCells_none _ _ _ _ _)
  · by_cases hroom : L.length + 1 ≤ cap
    · have hroom8 : ∀ j, j < (ocs s).length → (w.cell? ⟨g, 0 + L.length * i0.size + j, none⟩).isSome = true := fun j hj => by
        have h8 : j < 8 := hj
        rw [hz1, cell_of_row w g _ cur _ _ hg, Array.getElem?_eq_getElem (by omega)]; rfl
      have hrr := run_append_room_src (P := Tryz.prog) w 27 27 ty 56 i0 ht hi g 0 L.length cap _ 1 (ocs s) hsrc hroom
        hroom8
        (fun j hj => frozen_of_row w g _ cur _ hg)
      have hr' := hr
      rw [hv] at hr'
      have hr2 := hr'.symm.trans hrr
      injection hr2 with h1 h2
      subst h1 h2
      intro g' hg'
      have hg2 : g = g' := Option.some.inj hg'
      subst hg2
      obtain ⟨cur2, hcur2, hnu2⟩ := hnu g (by rw [hv]; rfl)
      rw [hg] at hcur2
      injection hcur2 with hcur2
      injection hcur2 with hcur2 _
      subst hcur2
      obtain ⟨cs', fz', hk⟩ := Go.Lib.ownsRow_kind hA.row g rfl
      have hrow := hA.row
      rcases hrow.2 with ⟨h, _⟩ | ⟨g3, cap3, cur3, h3, _, hg3, _⟩
      · exact absurd h (by simp)
      · have hgg : g = g3 := Option.some.inj (congrArg Value.ownBlock h3)
        subst hgg
        refine ⟨cur3, hg3, fun u hu => ?_⟩
        obtain ⟨j, hj, rfl⟩ := List.getElem_of_mem hu
        have hcell := cell_of_row _ g j cur3 _ _ hg3
        have hj3 : j < cur3.size := by simpa using hj
        rw [Array.getElem?_eq_getElem hj3] at hcell
        rw [Array.getElem_toList]
        by_cases hin : 0 + L.length * i0.size ≤ j ∧ j < 0 + L.length * i0.size + 8
        · have hk8 : j - (0 + L.length * i0.size) < (ocs s).length := by show _ < 8; omega
          have hin2 := World.cell?_setCells_in g (ocs s) (0 + L.length * i0.size) w hroom8 (j - (0 + L.length * i0.size)) hk8
          rw [show 0 + L.length * i0.size + (j - (0 + L.length * i0.size)) = j by omega, hcell] at hin2
          have hin3 := Option.some.inj hin2
          have hmem := List.getElem_mem hk8
          rw [← hin3] at hmem
          exact nu_ocs s _ hmem
        · have hout := World.cell?_setCells_out g (ocs s) (0 + L.length * i0.size) w ⟨g, j, none⟩ (fun _ _ => by show j < _ ∨ _ + 8 ≤ j; omega)
          rw [hcell, cell_of_row w g j cur _ _ hg] at hout
          exact hnu2 _ (by
            have := (Array.getElem?_eq_some_iff.1 hout.symm)
            obtain ⟨hjc, he⟩ := this
            rw [← he, ← Array.getElem_toList]
            exact List.getElem_mem _)
    · refine key (some ⟨g, 0, none⟩) L.length cap (ocl L) hv (by omega) hl (nu_ocl L) (run_firstCells_some _ _ _ _ _ _ _ (by rw [hz1]; exact ocl_len L) fun j u hu => ?_)
      have hr' := hown
      rw [hv] at hr'
      have hj : j < L.length * 8 := by rw [← ocl_len]; exact (List.getElem?_eq_some_iff.1 hu).1
      rw [Go.Lib.add_plain, Nat.zero_add]
      show w.cell? _ = _
      rw [hr'.cellAt j hj]; exact hu
theorem RR.same {w w' : World} {g : Nat} {s : St} (h : RR w g s) (hb : ∀ k, k < w.heap.size → (k = g ∨ ∃ off c, w.cell? ⟨k, off, none⟩ = some (.int .u8 c)) → w'.heap[k]? = w.heap[k]?) : RR w' g s := by
  have hlt := h.lt
  obtain ⟨A, C, cap, at_, ⟨h1, h2, h3, h4, h5⟩, h6⟩ := h
  refine ⟨A, C, cap, at_, ⟨(hb g hlt (.inl rfl)).trans h1, fun h0 => ?_, h3, h4, h5⟩, h6⟩
  obtain ⟨b, off, e, hc⟩ := h2 h0
  refine ⟨b, off, e, fun j hj => ?_⟩
  have hcj := hc j hj
  have hbl : b < w.heap.size := World.block_lt_of_cell? w ⟨b, off + j, none⟩ hcj
  exact (World.cell?_of_block (w := w) (a := ⟨b, off + j, none⟩) (hb b hbl (.inr ⟨_, _, hcj⟩))).trans hcj
theorem RR.app {w w' : World} {B g : Nat} {s : St} {v v' : Value} {L : List Se} (h : RR w g s) (hA : AppT w B v L v' w') (hn : NuRow w v) : RR w' g s := by
  refine h.same fun k hk hor => hA.grown.block k hk fun e => ?_
  obtain ⟨cur, hcur, hnu⟩ := hn k e.symm
  rcases hor with rfl | ⟨off, c, hc⟩
  · obtain ⟨A, C, cap, at_, ⟨h1, -⟩, -⟩ := h
    rw [hcur] at h1
    injection h1 with h1
    injection h1 with _ h1
    exact absurd h1 (by decide)
  · rw [cell_of_row w k off cur _ _ hcur] at hc
    obtain ⟨hj, he⟩ := Array.getElem?_eq_some_iff.1 hc
    exact hnu cur[off] (by rw [← Array.getElem_toList]; exact List.getElem_mem _) c he
theorem RR.bad {w : World} {g : Nat} {s : St} (h : RR w g s) : RR (w.setCell ⟨g, 2, none⟩ (.bool true)) g ([], true) := by
  obtain ⟨A, C, cap, at_, h1, -⟩ := h
  exact RR.dead h1.setBad
theorem RR.flag {w : World} {g : Nat} {s : St} (h : RR w g s) : g < w.heap.size ∧ w.cell? ⟨g, 2, none⟩ = some (.bool s.2) ∧ w.frozen? ⟨g, 2, none⟩ = false := by
  obtain ⟨A, C, cap, at_, h1, -⟩ := h
  exact ⟨h1.lt, h1.cells.2.2.1, h1.cells.2.2.2.2⟩
theorem RR.isDead {w : World} {g : Nat} {s : St} (h : RR w g s) : Dead s := fun hf => by
  obtain ⟨A, C, cap, at_, -, h2⟩ := h
  rw [hf] at h2; exact h2
end
/- The document's Load: any bytes read as a table. Printed by gen/rtload2.py. -/
section
open Go.RowKit
set_option linter.unusedSimpArgs false

/-- How it ends. -/
def LoadD (B Tw most : Nat) (v : Value) (L0 : List Se) (g : Nat) (w : World) (o : Option (List Se × St)) (e : Ending) (w' : World) : Prop :=
  But2 Tw g w w' ∧ ((∃ L s' v', o = some (L, s') ∧ e = .returned (.bool true) ∧ Tb most L ∧ RT w' B Tw most v' L ∧ (∀ k, v'.ownBlock = some k → w.heap.size ≤ k) ∧ RR w' g s' ∧ s'.2 = false) ∨ (o = none ∧ e = .returned (.bool false) ∧ RT w' B Tw most v L0 ∧ RR w' g ([], true)))
def badD (yb sr : Bool) (b i u q : Int) : Bool := !((yb && (wi 0 q && (decide (0 < q) || sr))) && (wi (b + 1) i && wi i u))
theorem badD_no {yb sr : Bool} {b i u q : Int} : badD yb sr b i u q = false ↔ yb = true ∧ (0 ≤ q ∧ q ≤ 1099511627776) ∧ (0 < q ∨ sr = true) ∧ (b + 1 ≤ i ∧ i ≤ 1099511627776) ∧ (i ≤ u ∧ u ≤ 1099511627776) := by
  unfold badD
  simp only [Bool.not_eq_false', Bool.and_eq_true, Bool.or_eq_true, decide_eq_true_eq, wi_iff, and_assoc]
theorem om_one (w : World) (i u q e n K m : Int) (s : ByteArray) : OM (w.alloc (.cells #[.int .i64 i, .int .i64 u, .int .i64 q, .int .i64 e, .int .i64 n, .int .i64 K, .int .i64 m, .string s] 56)) (some ⟨w.heap.size, 0, none⟩) [⟨i, u, q, ⟨e, n, K, m, s⟩⟩] := fun _ => by
  refine ⟨w.heap.size, 0, rfl, by simp, fun j x hx => ?_⟩
  rw [Nat.zero_add, cell_of_row _ _ j _ _ _ (heap_alloc_new w _)]
  have e : (#[.int .i64 i, .int .i64 u, .int .i64 q, .int .i64 e, .int .i64 n, .int .i64 K, .int .i64 m, .string s] : Array Value).toList = ocl [⟨i, u, q, ⟨e, n, K, m, s⟩⟩] := rfl
  rw [← hx, ← e, Array.getElem?_toList]
theorem wpList_app_u {ops : Array Oper} {rest : List Oper} {o : Oper} {a : Act} {Q : Exit → Act → World → Prop} {w : World} (hgd : o.guard = none) (s x : Operand)
    (ho : o.op = .call { callee := .builtin .append, args := #[s, x], argTypes := #[27, 27] })
    (B : Nat) (hB : B ≤ w.heap.size) (v : Value) (L : List Se) (e : Se) (hown : w.ownsRow B 56 8 v L.length (ocl L)) (hnu : NuRow w v) (hl : L.length ≤ 900) (b c : Nat) (hM : OM w (some ⟨b, 0, none⟩) [e]) (hs : a.eval s = v) (hx : a.eval x = .slice (some ⟨b, 0, none⟩) 1 c)
    (h : ∀ v' w', AppT w B v (L ++ [e]) v' w' → NuRow w' v' → wpList Tryz.prog ops Q rest (a.put o.dst v') w') : wpList Tryz.prog ops Q (o :: rest) a w := by
  refine wpList_plain hgd fun K hK => ?_
  obtain ⟨v', w', hr, h2, h3⟩ := run_app_u w o.type B hB v L e hown hnu hl b c hM
  unfold Oper.wp execOp
  simp only [ho, resolve, invoke, builtin, Sem.run_bind, Sem.run_pure, Result.andThen_ok, List.map_toArray, List.map_cons, List.map_nil, hs, hx, hr]
  exact hK _ _ (h v' w' h2 h3)
/-- The row that is being read. -/
structure RowU (w wx : World) (v : Value) (L : List Se) : Prop where
  row : wx.ownsRow w.heap.size 56 8 v L.length (ocl L)
  nu : NuRow wx v
theorem RowU.onl {w x y : World} {v : Value} {L : List Se} {g : Nat} (h : RowU w x v L) (ho : Only g x y) (hg : g < w.heap.size) : RowU w y v L :=
  ⟨Ss.own_stay h.row fun k hk => ho.block k (by have := (h.row.lt k hk).1; omega), h.nu.same fun k hk => ho.block k (by have := (h.row.lt k hk).1; omega)⟩
theorem RowU.later {w x y : World} {v : Value} {L : List Se} (h : RowU w x v L) (hb : Below x.heap.size x y) : RowU w y v L :=
  ⟨Ss.own_later h.row hb, h.nu.same fun k hk => hb.block k (h.row.lt k hk).2⟩
theorem RowU.new {w x y : World} {v : Value} {L : List Se} {b : Nat} (h : RowU w x v L) (ho : Only b x y) (hb : ∀ k, v.ownBlock = some k → k ≠ b) : RowU w y v L :=
  ⟨Ss.own_stay h.row fun k hk => ho.block k (hb k hk), h.nu.same fun k hk => ho.block k (hb k hk)⟩
theorem blk_store5 {w : World} {b : Nat} {t : TypeId} {i u q : Int} (h : Blk w b t #[.int .i64 i, .int .i64 u, .int .i64 q, .int .i64 0, .int .i64 0, .int .i64 0, .int .i64 0, .string ⟨#[]⟩]) (e n K m : Int) (s : ByteArray) :
    ∀ w', w' = (((((w.setCell ⟨b, 3, none⟩ (.int .i64 e)).setCell ⟨b, 3 + 1, none⟩ (.int .i64 n)).setCell ⟨b, 3 + 2, none⟩ (.int .i64 K)).setCell ⟨b, 3 + 3, none⟩ (.int .i64 m)).setCell ⟨b, 3 + 4, none⟩ (.string s)) →
    Blk w' b t #[.int .i64 i, .int .i64 u, .int .i64 q, .int .i64 e, .int .i64 n, .int .i64 K, .int .i64 m, .string s] ∧ Only b w w' := by
  rintro _ rfl
  refine ⟨?_, ((((((Only.refl b w).setCell 3 _).setCell 4 _).setCell 5 _).setCell 6 _).setCell 7 _)⟩
  have := ((((h.set 3 (.int .i64 e)).set 4 (.int .i64 n)).set 5 (.int .i64 K)).set 6 (.int .i64 m)).set 7 (.string s)
  simpa using this
theorem noU8_o (i u q e n K m : Int) (s : ByteArray) : noU8 #[.int .i64 i, .int .i64 u, .int .i64 q, .int .i64 e, .int .i64 n, .int .i64 K, .int .i64 m, .string s] = true := by simp [noU8]
theorem bytes_list2 (w : World) (P : List UInt8) : ∃ (cap : Nat) (w' : World), (convert 9 35 (.string ⟨P.toArray⟩)).run Tryz.prog w = .ok (.slice (some ⟨w.heap.size, 0, none⟩) P.length cap) w' ∧ P.length ≤ cap ∧ Bs w' (some ⟨w.heap.size, 0, none⟩) P ∧ Below w.heap.size w w' := by
  obtain ⟨cap, w', h1, h2, h3⟩ := bytes_list w P
  have h4 := run_bytes_of_string (P := Tryz.prog) w 9 35 5 ⟨P.toArray⟩ Tryz.underlying9 Tryz.underlying35 Tryz.underlying5
  have h5 := h1.symm.trans h4
  injection h5 with h5 h6
  injection h5 with h7 h8 h9
  have e : (⟨P.toArray⟩ : ByteArray).size = P.length := by show P.toArray.size = _; simp
  exact ⟨cap, w', h1, by rw [h9, ← e]; exact grownCap_ge _ _ _ _, h2, h3⟩
set_option maxHeartbeats 16000000 in
set_option maxRecDepth 100000 in
theorem rtload_any (B Tw most : Nat) (v : Value) (L0 : List Se) (g : Nat) (s : St) (w : World) (h : RT w B Tw most v L0) (hm1 : 1 ≤ most) (hm2 : most ≤ 64) (hR : RR w g s) (hgT : g ≠ Tw) (hgv : ∀ k, v.ownBlock = some k → k ≠ g) (hs : s.1.length ≤ 1048576) :
    Calls Tryz.prog 25 #[.pointer (some ⟨Tw, 0, none⟩), .pointer (some ⟨g, 0, none⟩)] w (LoadD B Tw most v L0 g w (loadT most s)) := by
  have hlo := stC_lo (most : Int) s
  have hdd := hR.isDead
  have hmost : (stC (most : Int) s).1 ≤ (most : Int) := by
    by_cases hk : 0 ≤ (stI s).1 ∧ (stI s).1 ≤ (most : Int) ∧ (stI s).1 ≤ ((stI s).2.1.length : Int)
    · rw [stC_yes hk]; exact hk.2.1
    · rw [stC_no hk]; show (0 : Int) ≤ _; omega
  have hcl : (stC (most : Int) s).2.1.length ≤ s.1.length := by
    unfold stC
    split
    · exact stI_left s
    · simp
  have hz0 := stC_zero (m := (most : Int)) hdd
  obtain ⟨n, s1, e1⟩ : ∃ (n : Nat) (s1 : St), stC (most : Int) s = ((n : Int), s1) := ⟨(stC (most : Int) s).1.toNat, (stC (most : Int) s).2, by rw [Int.toNat_of_nonneg hlo.1]⟩
  have hRR := loadT_of e1
  rw [e1] at hmost hcl hz0
  dsimp only at hmost hcl hz0
  have hlen : n ≤ most := by omega
  obtain ⟨hTl, t0, t1, tf⟩ := h.cells
  have hgl := hR.lt
  have c0 := refrcount_any g s (most : Int) w hR
  rw [e1] at c0
  dsimp only at c0
  have H := Lib.hid h
  have HV := Lib.hid hgv
  have HRR := Lib.hid hRR
  have HL0 : Hid (Tb most [] ∧ ([] : List Se).length = 0) := Lib.hid ⟨Tb.nil hm1 hm2, rfl⟩
  have HU0 : Hid (RowU w w (.slice none 0 0) []) := Lib.hid ⟨World.ownsRow_nil _ _ _ _, fun k hk => by cases hk⟩
  have HS1 : Hid (s1.1.length ≤ 1048576 ∧ (n ≠ 0 → s1.2 = false)) := Lib.hid ⟨by omega, fun hn => by
    cases hf : s1.2 with
    | false => rfl
    | true => exact absurd (hz0 hf) (by omega)⟩
  clear h hR hgv hRR hlo hmost hcl hz0 hdd hs e1
  go_enter Tryz.func25, Tryz.ntmps25
  go_wp2_with fail
  refine c0.mono ?_
  rintro e w1 ⟨rfl, h1, o1⟩
  have HR1 := Lib.hid h1
  have HO1 : Hid (Onl g w w1) := Lib.hid ((Onl.refl g w).only o1)
  have HU1 := Lib.hid (HU0.out.onl o1 hgl)
  clear c0 h1 o1 HU0 t0 t1 tf hTl
  go_wp2_with fail
  go_loopg [6, 7] (n) (fun m s6 s7 wr => ∃ (k : Nat) (L : List Se) (sx : St), k + m = n ∧ s7 = .int .i64 (k : Int) ∧ Hid (RowU w wr s6 L) ∧ Hid (Tb most L ∧ L.length = k) ∧ Hid (RR wr g sx) ∧ Hid (sx.1.length ≤ 1048576 ∧ (m ≠ 0 → sx.2 = false)) ∧ Hid (Onl g w wr) ∧ Hid (loopT m L sx = loopT n [] s1))
  case atStart => exact ⟨0, [], s1, by omega, rfl, HU1, HL0, HR1, HS1, HO1, Lib.hid rfl⟩
  case round =>
    obtain ⟨k, L, sx, hkm, rfl, HU, HL, HR, HS, HO, HE⟩ := hrel
    have HKM := Lib.hid hkm
    clear HR1 HO1 HL0 HU1 HS1
    by_cases hk : k < n
    · have hkz : (k : Int) < (n : Int) := by omega
      have hnf : sx.2 = false := HS.out.2 (by omega)
      obtain ⟨hgr, f2, ff2⟩ := HR.out.flag
      rw [hnf] at f2
      obtain ⟨i, sa, ei⟩ : ∃ i sa, stI sx = (i, sa) := ⟨_, _, rfl⟩
      obtain ⟨u, sb, eu⟩ : ∃ u sb, stI sa = (u, sb) := ⟨_, _, rfl⟩
      obtain ⟨q, sc, eq⟩ : ∃ q sc, stI sb = (q, sc) := ⟨_, _, rfl⟩
      obtain ⟨P, sd, eP⟩ : ∃ P sd, stT (sc.1.length : Int) sc = (P, sd) := ⟨_, _, rfl⟩
      obtain ⟨r, yb, ey⟩ : ∃ r yb, getP P = (r, yb) := ⟨_, _, rfl⟩
      have la := stI_left sx
      have lb := stI_left sa
      have lc := stI_left sb
      have ld := stT_left (m := (sc.1.length : Int)) (s := sc)
      rw [ei] at la
      rw [eu] at lb
      rw [eq] at lc
      rw [eP] at ld
      dsimp only at la lb lc ld
      have lx := HS.out.1
      have eP2 : stT 1048576 sc = (P, sd) := by rw [stT_long (by omega)]; exact eP
      have hgs := gS_of eu eq eP ey
      have ey2 := ey
      have hdd := HR.out.isDead
      have dd3 : Dead sc := by
        have d1 := dead_stI hdd
        rw [ei] at d1
        have d2 := dead_stI d1
        rw [eu] at d2
        have d3 := dead_stI d2
        rw [eq] at d3
        exact d3
      have HFB : Hid (sd.2 = true → yb = false) := Lib.hid fun hf => by
        have h5 := stT_bad (m := (sc.1.length : Int)) dd3 (by rw [eP]; exact hf)
        rw [eP] at h5
        dsimp only at h5
        rw [h5] at ey
        have h6 := getP_nil
        rw [ey] at h6; exact h6
      have hlast := last_in HL.out.1
      obtain ⟨bf, hbf⟩ : ∃ b, lastId L = b := ⟨_, rfl⟩
      rw [hbf] at hlast
      obtain ⟨sr, hsr⟩ : ∃ b, sameR r.e r.n r.K r.m r.s 0 0 0 0 ⟨#[]⟩ = b := ⟨_, rfl⟩
      rw [hsr] at hgs
      obtain ⟨bad, hbad⟩ : ∃ b, badD yb sr bf i u q = b := ⟨_, rfl⟩
      have hone : bad = false → oneT (lastId L) sx = some (⟨i, u, q, r⟩, sd) := fun hb => by
        obtain ⟨h1, ⟨h2, h3⟩, h4, ⟨h5, h6⟩, h7, h8⟩ := badD_no.1 (hbad.trans hb)
        have hF : (yb && (wi 0 q && (decide (0 < q) || sr))) = true := by
          rw [h1, wi_iff.2 ⟨h2, h3⟩]
          rcases h4 with h4 | h4
          · simp [h4]
          · simp [h4]
        rw [hF] at hgs
        exact oneT_yes ei hgs (by rw [hbf]; exact wi_iff.2 ⟨h5, h6⟩) (wi_iff.2 ⟨h7, h8⟩)
      have hnone : bad = true → loopT n [] s1 = none := fun hb => by
        rw [← HE.out, show gk = (gk - 1) + 1 by omega]
        refine loopT_none (oneT_no ei hgs ?_)
        rw [hbf]
        have h1 := hbad.trans hb
        unfold badD at h1
        rwa [Bool.not_eq_true'] at h1
      have HONE := Lib.hid hone
      have HNONE := Lib.hid hnone
      have HBAD := Lib.hid hbad
      have HBF := Lib.hid hbf
      have HSR := Lib.hid hsr
      have HDD := Lib.hid hdd
      have HLD : Hid (sd.1.length ≤ 1048576) := Lib.hid (by omega)
      have hPl : P.length ≤ 140737488355328 := by omega
      have b1 := Ss.below_alloc wr (.cells #[.int .i64 0, .int .i64 0, .int .i64 0, .int .i64 0, .int .i64 0, .int .i64 0, .int .i64 0, .string ⟨#[]⟩] 56)
      have X1 := Blk.new wr #[.int .i64 0, .int .i64 0, .int .i64 0, .int .i64 0, .int .i64 0, .int .i64 0, .int .i64 0, .string ⟨#[]⟩] 56
      have z1 : (wr.alloc (.cells #[.int .i64 0, .int .i64 0, .int .i64 0, .int .i64 0, .int .i64 0, .int .i64 0, .int .i64 0, .string ⟨#[]⟩] 56)).heap.size = wr.heap.size + 1 := by simp
      obtain ⟨w1, hw1⟩ : ∃ x, wr.alloc (.cells #[.int .i64 0, .int .i64 0, .int .i64 0, .int .i64 0, .int .i64 0, .int .i64 0, .int .i64 0, .string ⟨#[]⟩] 56) = x := ⟨_, rfl⟩
      rw [hw1] at b1 X1 z1
      have hR1 := HR.out.later b1
      have HU1 := Lib.hid (HU.out.later b1)
      have HO1 := Lib.hid (HO.out.later b1)
      have hwx : w.heap.size ≤ wr.heap.size := HO.out.size
      have hvb := fun k hk => (HU.out.row.lt k hk).2
      obtain ⟨xb, hxb⟩ : ∃ b, wr.heap.size = b := ⟨_, rfl⟩
      rw [hxb] at X1 z1 hwx hvb
      have hgx0 : g < xb := by omega
      have HXBN := Lib.hid hxb
      have HW1 := Lib.hid hw1
      have HVB := Lib.hid (show ∀ k, u6.ownBlock = some k → k ≠ xb from fun k hk => by have := hvb k hk; omega)
      have hgx : g ≠ xb := by omega
      have hxg : ¬ xb = g := by omega
      have hgx' : ¬ g = xb := by omega
      have cI := refrint_any g sx w1 hR1
      rw [ei] at cI
      dsimp only at cI
      have HX1 := Lib.hid X1
      clear hkm la lb lc ld lx ei ey hgs hdd dd3 hbf hsr hbad hone hnone hvb hR1 b1 hnf hxb hw1 X1 z1
      go_wp2_with fail
      rw [HW1.out, HXBN.out]
      have X1 := HX1.out
      have hz1 : w1.heap.size = xb + 1 := by rw [← HW1.out, ← HXBN.out]; simp
      refine cI.mono ?_
      rintro e w2 ⟨rfl, h2, o2⟩
      have X2 := X1.only o2 hxg
      have U2 := HU1.out.onl o2 hgl
      have O2 := HO1.out.only o2
      have hz2 := o2.size.trans hz1
      have k0 : w2.cell? ⟨xb, 0, none⟩ = some (.int .i64 0) := by rw [X2.cell]; rfl
      have kf : w2.frozen? ⟨xb, 0, none⟩ = false := X2.thaw 0
      obtain ⟨w3, hw3⟩ : ∃ x, x = w2.setCell ⟨xb, 0, none⟩ (.int .i64 i) := ⟨_, rfl⟩
      have X3 : Blk w3 xb 56 #[.int .i64 i, .int .i64 0, .int .i64 0, .int .i64 0, .int .i64 0, .int .i64 0, .int .i64 0, .string ⟨#[]⟩] := by rw [hw3]; exact X2.set 0 _
      have o3 : Only xb w2 w3 := by rw [hw3]; exact Only.one _ _ _ _
      have h3 := h2.blk X2 (noU8_o _ _ _ _ _ _ _ _) o3 hgx
      replace HU1 := Lib.hid (U2.new o3 HVB.out)
      replace HO1 := Lib.hid (O2.new o3 hwx)
      replace hz1 := o3.size.trans hz2
      replace cI := refrint_any g sa w3 h3
      rw [eu] at cI
      dsimp only at cI
      replace X1 := Lib.hid X3
      clear X2 X3 U2 O2 h2 h3 o2 o3 hz2
      go_wp2_with fail
      rw [← hw3]
      clear k0 kf hw3
      replace X1 := X1.out
      refine cI.mono ?_
      rintro e w4 ⟨rfl, h2, o2⟩
      have X2 := X1.only o2 hxg
      have U2 := HU1.out.onl o2 hgl
      have O2 := HO1.out.only o2
      have hz2 := o2.size.trans hz1
      have k0 : w4.cell? ⟨xb, 1, none⟩ = some (.int .i64 0) := by rw [X2.cell]; rfl
      have kf : w4.frozen? ⟨xb, 1, none⟩ = false := X2.thaw 1
      obtain ⟨w5, hw3⟩ : ∃ x, x = w4.setCell ⟨xb, 1, none⟩ (.int .i64 u) := ⟨_, rfl⟩
      have X3 : Blk w5 xb 56 #[.int .i64 i, .int .i64 u, .int .i64 0, .int .i64 0, .int .i64 0, .int .i64 0, .int .i64 0, .string ⟨#[]⟩] := by rw [hw3]; exact X2.set 1 _
      have o3 : Only xb w4 w5 := by rw [hw3]; exact Only.one _ _ _ _
      have h3 := h2.blk X2 (noU8_o _ _ _ _ _ _ _ _) o3 hgx
      replace HU1 := Lib.hid (U2.new o3 HVB.out)
      replace HO1 := Lib.hid (O2.new o3 hwx)
      replace hz1 := o3.size.trans hz2
      replace cI := refrint_any g sb w5 h3
      rw [eq] at cI
      dsimp only at cI
      replace X1 := Lib.hid X3
      clear X2 X3 U2 O2 h2 h3 o2 o3 hz2
      go_wp2_with fail
      rw [← hw3]
      clear k0 kf hw3
      replace X1 := X1.out
      refine cI.mono ?_
      rintro e w6 ⟨rfl, h2, o2⟩
      have X2 := X1.only o2 hxg
      have U2 := HU1.out.onl o2 hgl
      have O2 := HO1.out.only o2
      have hz2 := o2.size.trans hz1
      have k0 : w6.cell? ⟨xb, 2, none⟩ = some (.int .i64 0) := by rw [X2.cell]; rfl
      have kf : w6.frozen? ⟨xb, 2, none⟩ = false := X2.thaw 2
      obtain ⟨w7, hw3⟩ : ∃ x, x = w6.setCell ⟨xb, 2, none⟩ (.int .i64 q) := ⟨_, rfl⟩
      have X3 : Blk w7 xb 56 #[.int .i64 i, .int .i64 u, .int .i64 q, .int .i64 0, .int .i64 0, .int .i64 0, .int .i64 0, .string ⟨#[]⟩] := by rw [hw3]; exact X2.set 2 _
      have o3 : Only xb w6 w7 := by rw [hw3]; exact Only.one _ _ _ _
      have h3 := h2.blk X2 (noU8_o _ _ _ _ _ _ _ _) o3 hgx
      replace HU1 := Lib.hid (U2.new o3 HVB.out)
      replace HO1 := Lib.hid (O2.new o3 hwx)
      replace hz1 := o3.size.trans hz2
      have cT := refrtext_any g sc 1048576 w7 h3
      rw [eP2] at cT
      dsimp only at cT
      replace X1 := Lib.hid X3
      clear X2 X3 U2 O2 h2 h3 o2 o3 hz2
      go_wp2_with fail
      rw [← hw3]
      clear k0 kf hw3
      replace X1 := X1.out
      refine cT.mono ?_
      rintro e w8 ⟨rfl, h8, o8⟩
      have X8 := X1.only o8 hxg
      have U8 := HU1.out.onl o8 hgl
      have O8 := HO1.out.only o8
      have hz8 := o8.size.trans hz1
      obtain ⟨cap9, w9, cv, hcl9, hB9, b9⟩ := bytes_list2 w8 P
      have h9 := h8.later b9
      have HX9 := Lib.hid (X8.later b9)
      have HU9 := Lib.hid (U8.later b9)
      have HO9 := Lib.hid (O8.later b9)
      have H9 := Lib.hid h9
      have cG := rgetr_any (some ⟨w8.heap.size, 0, none⟩) P cap9 w9 hPl hcl9 hB9
      rw [ey2] at cG
      rw [hz8] at cv cG
      have z9 : xb + 1 ≤ w9.heap.size := by have := b9.size; omega
      clear cT h8 o8 X8 U8 O8 hcl9 hB9 b9 h9 X1 HU1 HO1 hz1
      go_wp2_with fail
      refine cG.mono ?_
      rintro e w10 ⟨rfl, b10⟩
      have z10 : xb + 1 ≤ w10.heap.size := Nat.le_trans z9 b10.size
      have X10 := HX9.out.later b10
      have U10 := HU9.out.later b10
      have O10 := HO9.out.later b10
      have h10 := H9.out.later b10
      have b11 := Ss.below_alloc w10 (.cells (cs5 0 0 0 0 ⟨#[]⟩) 34)
      have P11 := Blk.new w10 (cs5 0 0 0 0 ⟨#[]⟩) 34
      obtain ⟨w11, hw11⟩ : ∃ x, w10.alloc (.cells (cs5 0 0 0 0 ⟨#[]⟩) 34) = x := ⟨_, rfl⟩
      rw [hw11] at b11 P11
      have X11 := X10.later b11
      have U11 := U10.later b11
      have O11 := O10.later b11
      have h11 := h10.later b11
      have hUb := fun k hk => (HU.out.row.lt k hk).2
      obtain ⟨G, hG⟩ : ∃ G, w10.heap.size = G := ⟨_, rfl⟩
      rw [hG] at P11 z10
      obtain ⟨ex, nx, kx, mx, tx⟩ := r
      dsimp only at *
      obtain ⟨w12, hw12⟩ : ∃ x, x = (((((w11.setCell ⟨G, 0, none⟩ (.int .i64 ex)).setCell ⟨G, 1, none⟩ (.int .i64 nx)).setCell ⟨G, 2, none⟩ (.int .i64 kx)).setCell ⟨G, 3, none⟩ (.int .i64 mx)).setCell ⟨G, 4, none⟩ (.string tx)) := ⟨_, rfl⟩
      obtain ⟨P12, o12⟩ := blk_five P11 ⟨ex, nx, kx, mx, tx⟩ w12 hw12
      have X12 := X11.only o12 (show xb ≠ G by omega)
      have hUG : ∀ k, u6.ownBlock = some k → k ≠ G := fun k hk => by have h1 := hUb k hk; have h2 := HXBN.out; omega
      have U12 := U11.new o12 hUG
      have O12 := O11.new o12 (show w.heap.size ≤ G by omega)
      have h12 := h11.blk P11 (noU8_5 _ _ _ _ _) o12 (by omega)
      obtain ⟨w13, hw13⟩ : ∃ x, x = (((((w12.setCell ⟨xb, 3, none⟩ (.int .i64 ex)).setCell ⟨xb, 3 + 1, none⟩ (.int .i64 nx)).setCell ⟨xb, 3 + 2, none⟩ (.int .i64 kx)).setCell ⟨xb, 3 + 3, none⟩ (.int .i64 mx)).setCell ⟨xb, 3 + 4, none⟩ (.string tx)) := ⟨_, rfl⟩
      obtain ⟨X13, o13⟩ := blk_store5 X12 ex nx kx mx tx w13 hw13
      have U13 := U12.new o13 HVB.out
      have O13 := O12.new o13 hwx
      have h13 := h12.blk X12 (noU8_o _ _ _ _ _ _ _ _) o13 hgx
      have HP12 := Lib.hid P12
      have HP13 := Lib.hid (P12.only o13 (show G ≠ xb by omega))
      have HX12 := Lib.hid X12
      have HX13 := Lib.hid X13
      have HU12 := Lib.hid U12
      have HU13 := Lib.hid U13
      have HO13 := Lib.hid O13
      have H12 := Lib.hid h12
      have H13 := Lib.hid h13
      have HW12 := Lib.hid hw12
      have HW13 := Lib.hid hw13
      obtain ⟨x0, x1, x2, x3, x4, -, -, -⟩ := P11.t8
      obtain ⟨-, y0, y1, y2, y3, y4⟩ := P11.c5
      have hGx : ¬ G = xb := by omega
      have hxG : ¬ xb = G := by omega
      clear cG cv X10 U10 O10 h10 b10 b11 P11 X11 U11 O11 h11 hw12 P12 o12 X12 U12 O12 h12 hw13 X13 o13 U13 O13 h13 hUb hUG HX9 HU9 HO9 H9 z9 eP eP2 eu eq ey2
      go_upto_region 12 with fail
      rw [← HW12.out]
      clear x0 x1 x2 x3 x4 y0 y1 y2 y3 y4 hw11
      obtain ⟨hlx, -, -, -, a3, a4, a5, a6, a7⟩ := HX12.out.o8
      have b4 : w12.cell? ⟨xb, 3 + 1, none⟩ = _ := a4
      have b5 : w12.cell? ⟨xb, 3 + 2, none⟩ = _ := a5
      have b6 : w12.cell? ⟨xb, 3 + 3, none⟩ = _ := a6
      have b7 : w12.cell? ⟨xb, 3 + 4, none⟩ = _ := a7
      have z3 : w12.frozen? ⟨xb, 3, none⟩ = false := HX12.out.thaw 3
      have z4 : w12.frozen? ⟨xb, 3 + 1, none⟩ = false := HX12.out.thaw 4
      have z5 : w12.frozen? ⟨xb, 3 + 2, none⟩ = false := HX12.out.thaw 5
      have z6 : w12.frozen? ⟨xb, 3 + 3, none⟩ = false := HX12.out.thaw 6
      have z7 : w12.frozen? ⟨xb, 3 + 4, none⟩ = false := HX12.out.thaw 7
      obtain ⟨hlG, y0, y1, y2, y3, y4⟩ := HP12.out.c5
      clear a4 a5 a6 a7 f2 ff2
      go_upto_region 13 with fail
      rw [← HW13.out]
      clear hlx a3 b4 b5 b6 b7 z3 z4 z5 z6 z7 hlG y0 y1 y2 y3 y4
      go_cut [114] from 18 to 121 (fun s114 wx => s114 = .bool bad ∧ ∃ q, wx = w13.drewN q)
      case first =>
        dsimp only [List.append]
        obtain ⟨hlx, a0, a1, a2, a3, a4, a5, a6, a7⟩ := HX13.out.o8
        obtain ⟨hlG, y0, y1, y2, y3, y4⟩ := HP13.out.c5
        obtain ⟨hlg2, f3, -⟩ := H13.out.flag
        obtain ⟨fb, hfb⟩ : ∃ b, sd.2 = b := ⟨_, rfl⟩
        rw [hfb] at f3
        have HFB2 : Hid (fb = true → yb = false) := Lib.hid (by rw [← hfb]; exact HFB.out)
        clear hfb
        have heq := fun W => neq_rep ex nx kx mx tx 0 0 0 0 ⟨#[]⟩ W
        simp only [HSR.out] at heq
        have HYB : Hid (yb = false → bad = true) := Lib.hid fun hy => by
          cases hbb : bad with
          | true => rfl
          | false => exact absurd ((badD_no.1 (HBAD.out.trans hbb)).1) (by rw [hy]; decide)
        have HBO := Lib.hid (fun hbb : bad = false => badD_no.1 (HBAD.out.trans hbb))
        cases fb with
        | true =>
          have hb : bad = true := by
            exact HYB.out (HFB2.out rfl)
          subst hb
          clear HYB HBO
          go_quiet (fail)
          go_wp2_with fail
          go_meet
          exact ⟨rfl, _, rfl⟩
        | false =>
          cases yb with
          | false =>
            have hb : bad = true := by
              exact HYB.out rfl
            subst hb
            clear HYB HBO
            go_quiet (fail)
            go_wp2_with fail
            go_meet
            exact ⟨rfl, _, rfl⟩
          | true =>
            by_cases g1 : i < 1
            · skip
              have d1 : decide (i < 1) = true := decide_eq_true g1
              have hb : bad = true := by
                cases hbb : bad with
                | true => rfl
                | false => have := HBO.out hbb; omega
              subst hb
              clear HYB HBO
              go_quiet (fail)
              go_wp2_with fail
              go_meet
              exact ⟨rfl, _, rfl⟩
            · skip
              have d1 : decide (i < 1) = false := decide_eq_false g1
              by_cases g2 : u < i
              · skip
                have d2 : decide (u < i) = true := decide_eq_true g2
                have hb : bad = true := by
                  cases hbb : bad with
                  | true => rfl
                  | false => have := HBO.out hbb; omega
                subst hb
                clear HYB HBO
                go_quiet (fail)
                go_wp2_with fail
                go_meet
                exact ⟨rfl, _, rfl⟩
              · skip
                have d2 : decide (u < i) = false := decide_eq_false g2
                by_cases g3 : q < 0
                · skip
                  have d3 : decide (q < 0) = true := decide_eq_true g3
                  have hb : bad = true := by
                    cases hbb : bad with
                    | true => rfl
                    | false => have := HBO.out hbb; omega
                  subst hb
                  clear HYB HBO
                  go_quiet (fail)
                  go_wp2_with fail
                  go_meet
                  exact ⟨rfl, _, rfl⟩
                · skip
                  have d3 : decide (q < 0) = false := decide_eq_false g3
                  by_cases g4 : 1099511627776 < i
                  · skip
                    have d4 : decide (1099511627776 < i) = true := decide_eq_true g4
                    have hb : bad = true := by
                      cases hbb : bad with
                      | true => rfl
                      | false => have := HBO.out hbb; omega
                    subst hb
                    clear HYB HBO
                    go_quiet (fail)
                    go_wp2_with fail
                    go_meet
                    exact ⟨rfl, _, rfl⟩
                  · skip
                    have d4 : decide (1099511627776 < i) = false := decide_eq_false g4
                    by_cases g5 : 1099511627776 < u
                    · skip
                      have d5 : decide (1099511627776 < u) = true := decide_eq_true g5
                      have hb : bad = true := by
                        cases hbb : bad with
                        | true => rfl
                        | false => have := HBO.out hbb; omega
                      subst hb
                      clear HYB HBO
                      go_quiet (fail)
                      go_wp2_with fail
                      go_meet
                      exact ⟨rfl, _, rfl⟩
                    · skip
                      have d5 : decide (1099511627776 < u) = false := decide_eq_false g5
                      by_cases g6 : 1099511627776 < q
                      · skip
                        have d6 : decide (1099511627776 < q) = true := decide_eq_true g6
                        have hb : bad = true := by
                          cases hbb : bad with
                          | true => rfl
                          | false => have := HBO.out hbb; omega
                        subst hb
                        clear HYB HBO
                        go_quiet (fail)
                        go_wp2_with fail
                        go_meet
                        exact ⟨rfl, _, rfl⟩
                      · skip
                        have d6 : decide (1099511627776 < q) = false := decide_eq_false g6
                        have hrow := HU13.out.row
                        have hkb : k ≤ 64 := by omega
                        by_cases hq0 : q = 0
                        · skip
                          subst hq0
                          cases sr with
                          | false =>
                            have hb : bad = true := by
                              cases hbb : bad with
                              | true => rfl
                              | false =>
                                have := (HBO.out hbb).2.2.1
                                rcases this with h | h
                                · omega
                                · cases h
                            subst hb
                            clear HYB HBO
                            go_quiet (fail)
                            go_wp2_with fail
                            go_meet
                            exact ⟨rfl, _, rfl⟩
                          | true =>
                            by_cases hk0 : 0 < k
                            · skip
                              have hkL : k - 1 < L.length := by rw [HL.out.2]; omega
                              obtain ⟨gl, cl, hv6, hgl6, hgl7⟩ := hrow.form (by rw [HL.out.2]; exact hk0)
                              have hgx6 : gl ≠ xb := HVB.out gl (by rw [hv6]; rfl)
                              have hrow2 := hrow
                              rw [hv6] at hrow2
                              have hc6 := hrow2.cellAt ((k - 1) * 8 + 0) (by omega)
                              rw [ocl_at hkL (by decide)] at hc6
                              have hc7 : w13.cell? ⟨gl, (k - 1) * 8, none⟩ = some (.int .i64 L[k - 1].id) := hc6
                              have hlb : L[k - 1].id = bf := by
                                rw [← HBF.out]
                                rcases List.eq_nil_or_concat L with hL | ⟨M, x, hL⟩
                                · have := HL.out.2; rw [hL] at this; simp at this; omega
                                · subst hL
                                  simp only [List.concat_eq_append] at hkL ⊢
                                  rw [lastId_snoc]
                                  have h1 := HL.out.2
                                  simp only [List.concat_eq_append, List.length_append, List.length_cons, List.length_nil] at h1
                                  rw [List.getElem_append_right (by omega)]
                                  simp
                              rw [hlb] at hc7
                              rw [HL.out.2] at hv6
                              obtain ⟨k1, hk1⟩ : ∃ k1, k = k1 + 1 := ⟨k - 1, by omega⟩
                              have HK1 := Lib.hid hk1
                              clear hrow hrow2 hc6 hlb hkL hgl6
                              subst hk1
                              rw [Nat.add_sub_cancel] at hc7
                              subst hv6
                              have hz0 : (0 : Int) < ((k1 + 1 : Nat) : Int) := by omega
                              have hd0 : decide (0 < k1 + 1) = true := decide_eq_true (by omega)
                              have hd1 : decide ((0 : Int) < (k1 : Int) + 1) = true := decide_eq_true (by omega)
                              have hz1 : ((k1 + 1 : Nat) : Int) - 1 = (k1 : Int) := by omega
                              have hz2 : (k1 : Int) < (k1 : Int) + 1 := by omega
                              by_cases hle : i ≤ bf
                              · skip
                                have hd2 : decide (i ≤ bf) = true := decide_eq_true hle
                                have hb : bad = true := by
                                  cases hbb : bad with
                                  | true => rfl
                                  | false => have := HBO.out hbb; omega
                                subst hb
                                clear HYB HBO
                                go_quiet (fail)
                                go_wp2_with fail
                                go_meet
                                exact ⟨rfl, _, rfl⟩
                              · skip
                                have hd2 : decide (i ≤ bf) = false := decide_eq_false hle
                                have hb : bad = false := by
                                  rw [← HBAD.out]
                                  exact badD_no.2 ⟨rfl, ⟨by omega, by omega⟩, .inr rfl, ⟨by omega, by omega⟩, ⟨by omega, by omega⟩⟩
                                subst hb
                                clear HYB HBO
                                go_quiet (fail)
                                go_wp2_with fail
                                go_meet
                                exact ⟨rfl, _, rfl⟩
                            · skip
                              have hz0 : ¬ (0 : Int) < (k : Int) := by omega
                              have hd0 : decide (0 < k) = false := decide_eq_false hk0
                              have hd1 : decide ((0 : Int) < (k : Int)) = false := decide_eq_false hz0
                              have hbz : bf = 0 := by
                                rw [← HBF.out]
                                have := HL.out.2
                                rw [show L = [] from List.eq_nil_of_length_eq_zero (by omega)]; rfl
                              have hb : bad = false := by
                                rw [← HBAD.out]
                                exact badD_no.2 ⟨rfl, ⟨by omega, by omega⟩, .inr rfl, ⟨by omega, by omega⟩, ⟨by omega, by omega⟩⟩
                              subst hb
                              clear HYB HBO hbz hrow
                              go_quiet (fail)
                              go_wp2_with fail
                              go_meet
                              exact ⟨rfl, _, rfl⟩
                        · skip
                          have hq1 : (q == 0) = false := by simpa using hq0
                          by_cases hk0 : 0 < k
                          · skip
                            have hkL : k - 1 < L.length := by rw [HL.out.2]; omega
                            obtain ⟨gl, cl, hv6, hgl6, hgl7⟩ := hrow.form (by rw [HL.out.2]; exact hk0)
                            have hgx6 : gl ≠ xb := HVB.out gl (by rw [hv6]; rfl)
                            have hrow2 := hrow
                            rw [hv6] at hrow2
                            have hc6 := hrow2.cellAt ((k - 1) * 8 + 0) (by omega)
                            rw [ocl_at hkL (by decide)] at hc6
                            have hc7 : w13.cell? ⟨gl, (k - 1) * 8, none⟩ = some (.int .i64 L[k - 1].id) := hc6
                            have hlb : L[k - 1].id = bf := by
                              rw [← HBF.out]
                              rcases List.eq_nil_or_concat L with hL | ⟨M, x, hL⟩
                              · have := HL.out.2; rw [hL] at this; simp at this; omega
                              · subst hL
                                simp only [List.concat_eq_append] at hkL ⊢
                                rw [lastId_snoc]
                                have h1 := HL.out.2
                                simp only [List.concat_eq_append, List.length_append, List.length_cons, List.length_nil] at h1
                                rw [List.getElem_append_right (by omega)]
                                simp
                            rw [hlb] at hc7
                            rw [HL.out.2] at hv6
                            obtain ⟨k1, hk1⟩ : ∃ k1, k = k1 + 1 := ⟨k - 1, by omega⟩
                            have HK1 := Lib.hid hk1
                            clear hrow hrow2 hc6 hlb hkL hgl6
                            subst hk1
                            rw [Nat.add_sub_cancel] at hc7
                            subst hv6
                            have hz0 : (0 : Int) < ((k1 + 1 : Nat) : Int) := by omega
                            have hd0 : decide (0 < k1 + 1) = true := decide_eq_true (by omega)
                            have hd1 : decide ((0 : Int) < (k1 : Int) + 1) = true := decide_eq_true (by omega)
                            have hz1 : ((k1 + 1 : Nat) : Int) - 1 = (k1 : Int) := by omega
                            have hz2 : (k1 : Int) < (k1 : Int) + 1 := by omega
                            by_cases hle : i ≤ bf
                            · skip
                              have hd2 : decide (i ≤ bf) = true := decide_eq_true hle
                              have hb : bad = true := by
                                cases hbb : bad with
                                | true => rfl
                                | false => have := HBO.out hbb; omega
                              subst hb
                              clear HYB HBO
                              go_quiet (fail)
                              go_wp2_with fail
                              go_meet
                              exact ⟨rfl, _, rfl⟩
                            · skip
                              have hd2 : decide (i ≤ bf) = false := decide_eq_false hle
                              have hb : bad = false := by
                                rw [← HBAD.out]
                                exact badD_no.2 ⟨rfl, ⟨by omega, by omega⟩, .inl (by omega), ⟨by omega, by omega⟩, ⟨by omega, by omega⟩⟩
                              subst hb
                              clear HYB HBO
                              go_quiet (fail)
                              go_wp2_with fail
                              go_meet
                              exact ⟨rfl, _, rfl⟩
                          · skip
                            have hz0 : ¬ (0 : Int) < (k : Int) := by omega
                            have hd0 : decide (0 < k) = false := decide_eq_false hk0
                            have hd1 : decide ((0 : Int) < (k : Int)) = false := decide_eq_false hz0
                            have hbz : bf = 0 := by
                              rw [← HBF.out]
                              have := HL.out.2
                              rw [show L = [] from List.eq_nil_of_length_eq_zero (by omega)]; rfl
                            have hb : bad = false := by
                              rw [← HBAD.out]
                              exact badD_no.2 ⟨rfl, ⟨by omega, by omega⟩, .inl (by omega), ⟨by omega, by omega⟩, ⟨by omega, by omega⟩⟩
                            subst hb
                            clear HYB HBO hbz hrow
                            go_quiet (fail)
                            go_wp2_with fail
                            go_meet
                            exact ⟨rfl, _, rfl⟩
      case rest =>
        obtain ⟨rfl, hwc⟩ := hcut
        have bq : Below w13.heap.size w13 wc := by
          obtain ⟨qn, hwc⟩ := hwc
          rw [hwc]; exact Ss.below_drw (Below.refl _ _) qn
        have HXc := Lib.hid (HX13.out.later bq)
        have HUc := Lib.hid (HU13.out.later bq)
        have HOc := Lib.hid (HO13.out.later bq)
        have HRc := Lib.hid (H13.out.later bq)
        clear hwc bq
        cases bad with
        | true =>
          obtain ⟨hlg, c2, cf⟩ := HRc.out.flag
          have HB := Lib.hid (HRc.out.bad)
          have HOB : Hid (Onl g w (wc.setCell ⟨g, 2, none⟩ (.bool true))) := Lib.hid (HOc.out.only (Only.one wc g 2 (.bool true)))
          go_wp2_with fail
          go_ret
          have hbut : But2 Tw g w (wc.setCell ⟨g, 2, none⟩ (.bool true)) := ⟨HOB.out.os, HOB.out.tape, HOB.out.output, HOB.out.size, fun k hk _ h2 => HOB.out.block k hk h2⟩
          exact ⟨hbut, .inr ⟨by rw [HRR.out, HNONE.out (by trivial)], rfl, H.out.other (a := g) (b := g) HOB.out.but hgT.symm hgT.symm (fun k hk => ⟨HV.out k hk, HV.out k hk⟩), HB.out⟩⟩
        | false =>
          have hone := HONE.out rfl
          have hst := oneT_tb HL.out.1 (by have := HL.out.2; omega) HDD.out hone
          have HL2 : Hid (Tb most (L ++ [⟨i, u, q, ⟨ex, nx, kx, mx, tx⟩⟩]) ∧ (L ++ [(⟨i, u, q, ⟨ex, nx, kx, mx, tx⟩⟩ : Se)]).length = k + 1) := Lib.hid ⟨hst.tb, by rw [List.length_append, HL.out.2]; rfl⟩
          have HS2 : Hid (sd.1.length ≤ 1048576 ∧ (n - (k + 1) ≠ 0 → sd.2 = false)) := Lib.hid ⟨HLD.out, fun _ => hst.ok⟩
          have HE2 : Hid (loopT (n - (k + 1)) (L ++ [⟨i, u, q, ⟨ex, nx, kx, mx, tx⟩⟩]) sd = loopT n [] s1) := Lib.hid (by
            have h1 := HE.out
            have h2 := HKM.out
            rw [← h1, show gk = (gk - 1) + 1 by omega, loopT_some hone]
            congr 1
            omega)
          obtain ⟨hlx, a0, a1, a2, a3, a4, a5, a6, a7⟩ := HXc.out.o8
          have bz := Ss.below_alloc wc (.cells #[.int .i64 i, .int .i64 u, .int .i64 q, .int .i64 ex, .int .i64 nx, .int .i64 kx, .int .i64 mx, .string tx] 56)
          have HUz := Lib.hid (HUc.out.later bz)
          have HOz := Lib.hid (HOc.out.later bz)
          have HRz := Lib.hid (HRc.out.later bz)
          have HMz := Lib.hid (om_one wc i u q ex nx kx mx tx)
          have hl9 : Hid (L.length ≤ 900) := Lib.hid (by rw [HL.out.2]; omega)
          have hbz : Hid (w.heap.size ≤ (wc.alloc (.cells #[.int .i64 i, .int .i64 u, .int .i64 q, .int .i64 ex, .int .i64 nx, .int .i64 kx, .int .i64 mx, .string tx] 56)).heap.size) := Lib.hid HOz.out.size
          clear hst hone bz
          go_wp2_with (at_builtin; refine wpList_app_u rfl (.tmp 118) (.tmp 120) rfl w.heap.size hbz.out _ L _ HUz.out.row HUz.out.nu hl9.out _ 1 HMz.out rfl rfl ?_; intro v6 w6 h6 n6)
          have HU6 : Hid (RowU w w6 v6 (L ++ [⟨i, u, q, ⟨ex, nx, kx, mx, tx⟩⟩])) := Lib.hid ⟨h6.row, n6⟩
          have HR6 := Lib.hid (HRz.out.app h6 HUz.out.nu)
          have HO6 : Hid (Onl g w w6) := Lib.hid ⟨h6.grown.os.trans HOz.out.os, h6.grown.tape.trans HOz.out.tape, h6.grown.output.trans HOz.out.output, Nat.le_trans HOz.out.size h6.grown.size, fun j hj hg => (h6.grown.block j (Nat.lt_of_lt_of_le hj HOz.out.size) (fun e => by
            have := (HUz.out.row.lt j e.symm).1; omega)).trans (HOz.out.block j hj hg)⟩
          clear h6 n6
          go_roundg (n - (k + 1))
          case measure => have := HKM.out; omega
          case rel => exact ⟨k + 1, _, sd, by have := HKM.out; omega, by go_num, HU6, HL2, HR6, HS2, HO6, HE2⟩
    · have hkz : ¬ (k : Int) < (n : Int) := by omega
      have HF : Hid (loadT most s = if sx.2 then none else some (L, sx)) := Lib.hid (by
        rw [HRR.out, ← HE.out, show gk = 0 by have := HKM.out; omega, loopT_zero])
      obtain ⟨hlg, c2, cf⟩ := HR.out.flag
      obtain ⟨fb, hfb⟩ : ∃ b, sx.2 = b := ⟨_, rfl⟩
      have HFB := Lib.hid hfb
      rw [hfb] at c2
      have hRT : RT wr B Tw most v L0 := H.out.other (a := g) (b := g) HO.out.but hgT.symm hgT.symm (fun k hk => ⟨HV.out k hk, HV.out k hk⟩)
      have HRT := Lib.hid hRT
      clear hkm hfb hRT
      cases fb with
      | true =>
        have HD : Hid (RR wr g ([], true)) := Lib.hid (by
          have h1 := HR.out.isDead HFB.out
          have h2 := HR.out
          obtain ⟨l, f⟩ := sx
          dsimp only at h1
          have h3 : f = true := HFB.out
          subst h1 h3
          exact h2)
        go_wp2_with fail
        go_ret
        have hbut : But2 Tw g w wr := ⟨HO.out.os, HO.out.tape, HO.out.output, HO.out.size, fun k hk _ h2 => HO.out.block k hk h2⟩
        exact ⟨hbut, .inr ⟨by rw [HF.out, HFB.out]; rfl, rfl, HRT.out, HD.out⟩⟩
      | false =>
        have hrow := HU.out.row
        have hform : ∃ A6 n6 c6, u6 = .slice A6 n6 c6 := by
          rcases hrow.2 with ⟨h, _⟩ | ⟨_, _, _, h, _⟩ <;> exact ⟨_, _, _, h⟩
        obtain ⟨A6, n6, c6, rfl⟩ := hform
        obtain ⟨hTl, t0, t1, tf⟩ := HRT.out.cells
        obtain ⟨Av, cv, hv, -⟩ := HRT.out.slice
        have hBw : B ≤ w.heap.size := by have h1 := H.out.ge; have h2 := H.out.blk.lt; omega
        have hturn := HRT.out.turn (hrow.mono hBw)
        have hrr : RR (wr.setCell ⟨Tw, 0, none⟩ (.slice A6 n6 c6)) g sx := HR.out.blk HRT.out.blk (by rw [hv]; simp [noU8]) hturn.2 hgT
        have HTU := Lib.hid hturn
        have HRX := Lib.hid hrr
        have HFR := Lib.hid (fun k hk => (hrow.lt k hk).1)
        clear hturn hrr hrow
        go_wp2_with fail
        go_ret
        have ho := HTU.out.2
        have hbut : But2 Tw g w (wr.setCell ⟨Tw, 0, none⟩ (.slice A6 n6 c6)) := ⟨ho.os.trans HO.out.os, ho.tape.trans HO.out.tape, ho.output.trans HO.out.output, Nat.le_trans HO.out.size (Nat.le_of_eq ho.size.symm), fun k hk h1 h2 => (ho.block k h1).trans (HO.out.block k hk h2)⟩
        exact ⟨hbut, .inl ⟨L, sx, _, by rw [HF.out, HFB.out]; rfl, rfl, HL.out.1, HTU.out.1, HFR.out, HRX.out, HFB.out⟩⟩
end
end Go.Proofs.YtindkpfmflcibaaGreatDoor
