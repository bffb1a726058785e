/- The calls of the law's closure. -/
import Derived.Test.YtindkpfmflcibaaDoorMSsD
import Derived.Test.YtindkpfmflcibaaDoorMSsP
import Derived.Test.YtindkpfmflcibaaDoorMSsA
import Derived.Test.YtindkpfmflcibaaDoorMPlc
import Derived.StillTailTactics
namespace Go.Proofs.YtindkpfmflcibaaDoor
open Go.RowKit Go.Maps Go.Sort Go.Shelf
set_option linter.unusedSimpArgs false

/-- A call that came in, and where it lies. -/
structure Oq where
  k : Int
  id : Int
  at_ : Int
  r : Rp
structure OpAt (w : World) (b off : Nat) (o : Oq) : Prop where
  c0 : w.cell? ⟨b, off, none⟩ = some (.int .i64 o.k)
  c1 : w.cell? ⟨b, off + 1, none⟩ = some (.int .i64 o.id)
  c2 : w.cell? ⟨b, off + 2, none⟩ = some (.int .i64 o.at_)
  c3 : w.cell? ⟨b, off + 3, none⟩ = some (.int .i64 o.r.e)
  c4 : w.cell? ⟨b, off + 4, none⟩ = some (.int .i64 o.r.n)
  c5 : w.cell? ⟨b, off + 5, none⟩ = some (.int .i64 o.r.K)
  c6 : w.cell? ⟨b, off + 6, none⟩ = some (.int .i64 o.r.m)
  c7 : w.cell? ⟨b, off + 7, none⟩ = some (.string o.r.s)
theorem OpAt.same {w w' : World} {b off : Nat} {o : Oq} (h : OpAt w b off o) (hb : w'.heap[b]? = w.heap[b]?) : OpAt w' b off o := by
  have key : ∀ i, w'.cell? ⟨b, i, none⟩ = w.cell? ⟨b, i, none⟩ := fun i => World.cell?_of_block (w := w) (a := ⟨b, i, none⟩) hb
  exact ⟨(key _).trans h.c0, (key _).trans h.c1, (key _).trans h.c2, (key _).trans h.c3, (key _).trans h.c4, (key _).trans h.c5, (key _).trans h.c6, (key _).trans h.c7⟩
/-- Calls lie somewhere, below a bound. -/
def OpsAt (w : World) (B : Nat) (A : Option Addr) (Z : List Oq) : Prop := 0 < Z.length → ∃ b off, A = some ⟨b, off, none⟩ ∧ b < B ∧ ∀ j (hj : j < Z.length), OpAt w b (off + j * 9) Z[j]
theorem OpsAt.below {w w' : World} {B : Nat} {A : Option Addr} {Z : List Oq} (h : OpsAt w B A Z) (hb : Below B w w') : OpsAt w' B A Z := fun h0 => by
  obtain ⟨b, off, rfl, hlt, hc⟩ := h h0
  exact ⟨b, off, rfl, hlt, fun j hj => (hc j hj).same (hb.block b hlt)⟩
structure Oq.In (o : Oq) : Prop where
  k0 : -9223372036854775808 ≤ o.k
  k1 : o.k ≤ 9223372036854775807
  i0 : -9223372036854775808 ≤ o.id
  i1 : o.id ≤ 9223372036854775807
  a0 : -9223372036854775808 ≤ o.at_
  a1 : o.at_ ≤ 9223372036854775807
  rin : o.r.In
  size : o.r.s.size < 9223372036854775807
theorem But2.on {a r : Nat} {w x y : World} (h : But2 a r w x) (k : But2 x.heap.size r x y) : But2 a r w y :=
  ⟨k.os.trans h.os, k.tape.trans h.tape, k.output.trans h.output, Nat.le_trans h.size k.size, fun i hi h1 h2 => (k.block i (Nat.lt_of_lt_of_le hi h.size) (by have := h.size; omega) h2).trans (h.block i hi h1 h2)⟩
/-- A call is made; some are. -/
def stepS (most : Nat) (o : Oq) (L : List Se) : List Se :=
  if placeZ o.k 3 = 0 then (openS most o.id L).2 else if placeZ o.k 3 = 1 then (useS o.id o.at_ L).2 else if o.r.s.size < 1000 then (keepS o.id o.at_ o.r L).2 else L
def runS (most : Nat) (Z : List Oq) (L : List Se) : List Se := Z.foldl (fun L o => stepS most o L) L
theorem runS_take {most : Nat} {Z : List Oq} {L : List Se} {k : Nat} {o : Oq} (h : Z[k]? = some o) : runS most (Z.take (k + 1)) L = stepS most o (runS most (Z.take k) L) := by
  unfold runS; rw [List.take_add_one, h, List.foldl_append]; rfl
set_option maxHeartbeats 2000000 in
set_option maxRecDepth 100000 in
theorem calls15_any (T r most B : Nat) (A : Option Addr) (Z : List Oq) (c : Nat) (L : List Se) (w : World) (hK : Tab w T r most L) (hB : B ≤ w.heap.size) (hBr : B ≤ r) (hZ : OpsAt w B A Z) (hI : ∀ o ∈ Z, o.In) (hT : ∀ w', But2 w.heap.size r w w' → Tabs w') (hzl : Z.length ≤ 17592186044416) :
    Calls Tryd.prog 13 #[.pointer (some ⟨T, 0, none⟩), .slice A Z.length c] w fun e w' => e = .returned (.tuple #[]) ∧ Tab w' T r most (runS most (Z.take 30) L) ∧ But2 w.heap.size r w w' := by
  have HK := Lib.hid hK
  have HZ := Lib.hid hZ
  have HI := Lib.hid hI
  have HT := Lib.hid hT
  obtain ⟨M, hM⟩ : ∃ M, M = min Z.length 30 := ⟨_, rfl⟩
  have HM := Lib.hid hM
  have h0 : Hid (But2 w.heap.size r w w) := Lib.hid (But2.refl _ _ _)
  obtain ⟨n, hn⟩ : ∃ n, Z.length = n := ⟨_, rfl⟩
  have HN := Lib.hid hn
  rw [hn]
  rw [hn] at hzl
  clear hK hZ hI hT hM hn
  go_enter Tryd.func13, Tryd.ntmps13
  go_wp2_with fail
  go_loopg [4] (M) (fun m s4 wr => ∃ k : Nat, k + m = M ∧ s4 = .int .i64 (k : Int) ∧ Hid (Tab wr T r most (runS most (Z.take k) L)) ∧ Hid (But2 w.heap.size r w wr))
  case atStart => exact ⟨0, by omega, rfl, HK, h0⟩
  case round =>
    obtain ⟨k, hkm, rfl, HKr, HW⟩ := hrel
    have HKM := Lib.hid hkm
    clear HK h0
    by_cases hk : k < M
    · have hk30 : (k : Int) < 30 := by have := HM.out; omega
      have hkn : (k : Int) < (n : Int) := by have := HM.out; have := HN.out; omega
      have hkZ : k < Z.length := by have := HN.out; omega
      obtain ⟨b, off, rfl, hbB, hZ⟩ := HZ.out (by omega)
      have hO := (hZ k hkZ).same (HW.out.block b (by omega) (by omega) (by omega))
      have hbl : b < wr.heap.size := by have := HW.out.size; omega
      clear hZ
      have hs := List.getElem?_eq_getElem hkZ
      have hin := HI.out _ (List.getElem_mem hkZ)
      have HST := Lib.hid (runS_take (most := most) (L := L) hs)
      generalize Z[k] = o at *
      obtain ⟨c0, c1, c2, c3, c4, c5, c6, c7⟩ := hO
      clear hkm hs hkZ
      have cp := fun W => place_z o.k 3 W hin.k0 hin.k1 (by decide) (by decide)
      go_wp2_with fail
      refine (cp _).mono ?_
      rintro e w1 ⟨rfl, rfl⟩
      clear cp
      have HTB := HT.out wr HW.out
      unfold stepS at HST
      obtain ⟨p, hp⟩ : ∃ p, placeZ o.k 3 = p := ⟨_, rfl⟩
      rw [hp] at HST ⊢
      have hrin := hin.rin
      have hrs := hin.size
      clear hp hin
      by_cases p0 : p = 0
      · subst p0
        have cO := stopen_any T r most _ o.id wr HKr.out
        rw [if_pos rfl] at HST
        go_wp2_with fail
        refine cO.mono ?_
        rintro e w2 ⟨rfl, hK2, hB2⟩
        have HK2 := Lib.hid hK2
        rw [← HST.out] at HK2
        have HB2 := Lib.hid (HW.out.on hB2)
        clear hK2 hB2 cO c0 c1 c2 c3 c4 c5 c6 c7
        go_wp2_with fail
        go_roundg (M - (k + 1))
        case measure => have := HKM.out; omega
        case rel => exact ⟨k + 1, by have := HKM.out; omega, by go_num, HK2, HB2⟩
      · rw [if_neg p0] at HST
        have pz0 : (p == 0) = false := by simpa using p0
        by_cases p1 : p = 1
        · subst p1
          have cU := stuse_any T r most _ o.id o.at_ wr HKr.out
          rw [if_pos rfl] at HST
          have hKd : Tab wr.drew T r most (runS most (Z.take k) L) := HKr.out.later ((Below.refl _ _).drew)
          have hWd : But2 w.heap.size r w wr.drew := ⟨HW.out.os, HW.out.tape, HW.out.output, HW.out.size, HW.out.block⟩
          have HWd := Lib.hid hWd
          have cU := stuse_any T r most _ o.id o.at_ wr.drew hKd
          clear hKd hWd
          go_wp2_with fail
          refine wp_region_still_tail 11 (by kernel_rfl) (by kernel_rfl) ?_
          simp only [List.take_succ_cons, List.take_zero, List.drop_succ_cons, List.drop_zero]
          repeat still_step
          refine wpStill_nil ?_
          change wpList _ _ _ _ _ wr.drew
          go_wp2_with fail
          refine cU.mono ?_
          rintro e w2 ⟨rfl, hK2, hB2⟩
          have HK2 := Lib.hid hK2
          rw [← HST.out] at HK2
          have HB2 := Lib.hid (HWd.out.on hB2)
          clear hK2 hB2 cU c0 c1 c2 c3 c4 c5 c6 c7
          go_wp2_with fail
          go_roundg (M - (k + 1))
          case measure => have := HKM.out; omega
          case rel => exact ⟨k + 1, by have := HKM.out; omega, by go_num, HK2, HB2⟩
        · rw [if_neg p1] at HST
          have pz1 : (p == 1) = false := by simpa using p1
          by_cases h1000 : o.r.s.size < 1000
          · rw [if_pos h1000] at HST
            have hzz : (o.r.s.size : Int) < 1000 := by omega
            have hKd : Tab wr.drew T r most (runS most (Z.take k) L) := HKr.out.later ((Below.refl _ _).drew)
            have hWd : But2 w.heap.size r w wr.drew := ⟨HW.out.os, HW.out.tape, HW.out.output, HW.out.size, HW.out.block⟩
            have HWd := Lib.hid hWd
            have cU := stkeep_any T r most _ o.id o.at_ o.r wr.drew hKd hrin hrs (HT.out _ hWd)
            clear hKd hWd
            go_wp2_with fail
            refine wp_region_still_tail 16 (by kernel_rfl) (by kernel_rfl) ?_
            simp only [List.take_succ_cons, List.take_zero, List.drop_succ_cons, List.drop_zero]
            repeat still_step
            refine wpStill_nil ?_
            change wpList _ _ _ _ _ wr.drew
            go_wp2_with fail
            refine cU.mono ?_
            rintro e w2 ⟨rfl, hK2, hB2⟩
            have HK2 := Lib.hid hK2
            rw [← HST.out] at HK2
            have HB2 := Lib.hid (HWd.out.on hB2)
            clear hK2 hB2 cU c0 c1 c2 c3 c4 c5 c6 c7
            go_wp2_with fail
            go_roundg (M - (k + 1))
            case measure => have := HKM.out; omega
            case rel => exact ⟨k + 1, by have := HKM.out; omega, by go_num, HK2, HB2⟩
          · rw [if_neg h1000] at HST
            have hzz : ¬ (o.r.s.size : Int) < 1000 := by omega
            have HK2 := HKr
            rw [← HST.out] at HK2
            have HB2 := HW
            go_wp2_with fail
            go_roundg (M - (k + 1))
            case measure => have := HKM.out; omega
            case rel => exact ⟨k + 1, by have := HKM.out; omega, by go_num, HK2, HB2⟩
    · have hkn : k = M := by omega
      subst hkn
      have hz : ¬ ((k : Int) < (n : Int) ∧ (k : Int) < 30) := by have := HM.out; have := HN.out; omega
      have HE : Hid (Z.take k = Z.take 30) := Lib.hid (by
        have h1 := HM.out
        rcases Nat.le_total Z.length 30 with h | h
        · rw [List.take_of_length_le (show Z.length ≤ k by omega), List.take_of_length_le h]
        · rw [show k = 30 by omega])
      rw [HE.out] at HKr
      by_cases hkn : (k : Int) < (n : Int)
      · have hk30 : ¬ (k : Int) < 30 := fun h => hz ⟨hkn, h⟩
        go_wp2_with fail
        go_end0
        exact ⟨rfl, HKr.out, HW.out⟩
      · go_wp2_with fail
        go_end0
        exact ⟨rfl, HKr.out, HW.out⟩
end Go.Proofs.YtindkpfmflcibaaDoor
