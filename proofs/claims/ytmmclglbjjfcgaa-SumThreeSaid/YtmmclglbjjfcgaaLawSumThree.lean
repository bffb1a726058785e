/- The statement SumThree: of three strings of bytes of one length, added bit by bit, the sum is their three sums, added so. Conditions: none. -/
import Derived.Test.YtmmclglbjjfcgaaSumThree
import Derived.StillTailTactics
import Derived.RegionTactic
namespace Go.Proofs.Ytmmclglbjjfcgaa
open Go.ChangeShapes Go.WideShapes Go.ChangeAt Go.RowKit

theorem flip_w {f : FuncId} {xs : Array Value} {v : Value} {w : World} (h : Calls Try.prog f xs w fun e w' => e = .returned v ∧ w = w') : Calls Try.prog f xs w fun e w' => e = .returned v ∧ w' = w :=
  h.mono fun _ _ ⟨he, hw⟩ => ⟨he, hw.symm⟩
/-- The sum of the first n of bytes that lie somewhere. -/
theorem of_take (A : Option Addr) (L : List UInt8) (cap n : Nat) (w : World) (hn : n ≤ L.length) (hl : n ≤ 9223372036854775807) (hB : Bs w A L) :
    Calls Try.prog 9 #[.slice A n cap] w fun e w' => e = .returned (.int .u32 (Z (moreB 0#32 (L.take n)))) ∧ w' = w := by
  have h1 : (L.take n).length = n := by rw [List.length_take]; omega
  have c1 := of_any A (L.take n) cap w (by omega) (bs_take hB n)
  rw [h1] at c1
  exact flip_w c1
def ThreeRel (w wr : World) (X : List UInt8) (n k : Nat) : Prop := Row wr w.heap.size (part X n k) ∧ Below w.heap.size w wr

set_option maxHeartbeats 1000000 in
theorem sumthree_n (A B C : Option Addr) (L M N : List UInt8) (ca cb cc : Nat) (n : Nat) (X : List UInt8) (w : World) (hn : min L.length (min M.length N.length) = n) (hla : L.length ≤ ca) (hlb : M.length ≤ cb) (hlc : N.length ≤ cc) (hca : ca ≤ 140737488351232)  (_ : cb ≤ 140737488351232) (_ : cc ≤ 140737488351232)
    (hA : Bs w A L) (hB : Bs w B M) (hC : Bs w C N) (hX : X.length = n) (hx : ∀ k, k < n → X.getD k 0 = L.getD k 0 ^^^ M.getD k 0 ^^^ N.getD k 0) (hsum : moreB 0#32 (L.take n) ^^^ moreB 0#32 (M.take n) ^^^ moreB 0#32 (N.take n) = moreB 0#32 X) :
    Calls Try.prog 6 #[.slice A L.length ca, .slice B M.length cb, .slice C N.length cc] w fun e w' => e = .returned (.bool true) ∧ Below w.heap.size w w' := by
  have hmn := min_three L.length M.length N.length n hn
  have hmk := mk_bytes n (by omega)
  have hnl : n ≤ L.length := by omega
  have hnm : n ≤ M.length := by omega
  have hnn : n ≤ N.length := by omega
  have HX := Lib.hid hX
  have HXX := Lib.hid hx
  have HS := Lib.hid hsum
  clear hn hX hx hsum
  go_enter Try.func6, Try.ntmps6
  go_wp2_with fail
  clear hmn hmk
  go_loopw [9] (fun i wr => ∃ k : Nat, k ≤ n ∧ i = .int .i64 k ∧ ThreeRel w wr X n k) (fun i _ => n - (intOf i).toNat)
  case atStart => exact ⟨0, Nat.zero_le _, rfl, by rw [part_none]; exact row_made w n, (Below.refl _ _).alloc (Nat.le_refl _) _⟩
  case round =>
    obtain ⟨k, hk, rfl, hrow, hbl⟩ := hrel
    by_cases hlt : k < n
    · obtain ⟨b1, o1, rfl, hc1⟩ := hA (by omega)
      obtain ⟨b2, o2, rfl, hc2⟩ := hB (by omega)
      obtain ⟨b3, o3, rfl, hc3⟩ := hC (by omega)
      have l1 := Bs.lt (by omega) hc1
      have l2 := Bs.lt (by omega) hc2
      have l3 := Bs.lt (by omega) hc3
      have e1 := (hbl.cell (p := ⟨b1, o1 + k, none⟩) l1).trans (hc1 k (by omega))
      have e2 := (hbl.cell (p := ⟨b2, o2 + k, none⟩) l2).trans (hc2 k (by omega))
      have e3 := (hbl.cell (p := ⟨b3, o3 + k, none⟩) l3).trans (hc3 k (by omega))
      have e4 := row_cell hrow k (by rw [part_len HX.out hk]; exact hlt)
      have e5 := row_frozen hrow k
      have hset := row_set hrow k (X.getD k 0)
      rw [part_set HX.out hlt, HXX.out k hlt] at hset
      have hxor := xor_u8 (L.getD k 0) (M.getD k 0) (N.getD k 0)
      have HROW := Lib.hid hset
      have HBL := Lib.hid hbl
      clear hset hrow hbl hc1 hc2 hc3 hA hB hC
      generalize L.getD k 0 = x1 at *
      generalize M.getD k 0 = x2 at *
      generalize N.getD k 0 = x3 at *
      go_wp2_with fail
      go_region
      go_wp2
      go_roundw
      case rel => exact ⟨k + 1, by omega, by go_num, HROW.out, (HBL.out.setCell (Nat.le_refl _) _).drew⟩
      case measure => simp [intOf]; omega
    · obtain rfl : k = n := by omega
      rw [part_full HX.out] at hrow
      have c1 := of_take A L ca k wr.drew hnl (by omega) (hA.below hbl.drew)
      have c2 := of_take B M cb k wr.drew hnm (by omega) (hB.below hbl.drew)
      have c3 := of_take C N cc k wr.drew hnn (by omega) (hC.below hbl.drew)
      have c4 := of_take (some ⟨w.heap.size, 0, none⟩) X k k wr.drew (by rw [HX.out]; exact Nat.le_refl _) (by omega) (row_bs hrow)
      rw [List.take_of_length_le (by rw [HX.out]; exact Nat.le_refl _)] at c4
      have hz : bits .xor .u32 (bits .xor .u32 (Z (moreB 0#32 (L.take k))) (Z (moreB 0#32 (M.take k)))) (Z (moreB 0#32 (N.take k))) = Z (moreB 0#32 X) := by rw [Z_xor, Z_xor, HS.out]
      have haw := awake_any wr.drew
      have hkca : k ≤ ca := by omega
      have hkcb : k ≤ cb := by omega
      have hkcc : k ≤ cc := by omega
      have HBL := Lib.hid hbl
      clear hA hB hC hbl hrow HS
      generalize Z (moreB 0#32 (L.take k)) = Q1 at *
      generalize Z (moreB 0#32 (M.take k)) = Q2 at *
      generalize Z (moreB 0#32 (N.take k)) = Q3 at *
      generalize Z (moreB 0#32 X) = R at *
      go_wp2_with fail
      refine wp_region_still_tail 18 (by kernel_rfl) (by kernel_rfl) ?_
      simp only [List.take_succ_cons, List.take_zero, List.drop_succ_cons, List.drop_zero]
      repeat still_step
      still_call c1
      repeat still_step
      still_call c2
      repeat still_step
      still_call c3
      repeat still_step
      still_call c4
      repeat still_step
      refine wpStill_nil ?_
      change wpList _ _ _ _ _ wr.drew
      go_wp2_with fail
      refine haw.mono ?_
      rintro e w2 ⟨rfl, hb2⟩
      go_wp2
      go_ret
      exact ⟨rfl, HBL.out.drew.trans (hb2.mono HBL.out.size)⟩

theorem sumthree_walk (A : Option Addr) (L : List UInt8) (ca : Nat) (B : Option Addr) (M : List UInt8) (cb : Nat) (C : Option Addr) (N : List UInt8) (cc : Nat) (w : World)
    (hla : L.length ≤ ca) (hca : ca ≤ 140737488351232) (hA : Bs w A L) (_ : A = none → ca = 0) (hlb : M.length ≤ cb) (hcb : cb ≤ 140737488351232) (hB : Bs w B M) (_ : B = none → cb = 0) (hlc : N.length ≤ cc) (hcc : cc ≤ 140737488351232) (hC : Bs w C N) (_ : C = none → cc = 0) :
    Calls Try.prog 6 #[.slice A L.length ca, .slice B M.length cb, .slice C N.length cc] w fun e w' => e = .returned (.bool true) ∧ Below w.heap.size w w' := by
  obtain ⟨n, hn⟩ : ∃ n, min L.length (min M.length N.length) = n := ⟨_, rfl⟩
  have t1 : (L.take n).length = n := by rw [List.length_take]; omega
  have t2 : (M.take n).length = n := by rw [List.length_take]; omega
  have t3 : (N.take n).length = n := by rw [List.length_take]; omega
  have tk : ∀ (l : List UInt8) (k : Nat), k < n → (l.take n).getD k 0 = l.getD k 0 := fun l k h => by rw [List.getD_eq_getElem?_getD, List.getElem?_take, if_pos h, List.getD_eq_getElem?_getD]
  refine sumthree_n A B C L M N ca cb cc n (x3 (L.take n) (M.take n) (N.take n)) w hn hla hlb hlc hca hcb hcc hA hB hC (x3_length n _ _ _ t1 t2 t3) (fun k hk => ?_) (more_three _ _ _ n t1 t2 t3)
  rw [x3_at n _ _ _ k t1 t2 t3 hk, tk L k hk, tk M k hk, tk N k hk]
set_option maxRecDepth 100000 in
theorem sumthree_lifted (os : Os) (started : os.Started) (H : Type) (enc : TypeId × Value → H) :
    ReturnsInHanded {} Try.checked os 6 .any (Rows.sumThreeSpec.pre6 enc Try.prog Try.f6 Rows.sumThreeRow.domain false) (Rows.sumThreeSpec.post enc Try.prog Try.f6 false true false false) := by
  refine returnsInHanded_of_change_sized (C := Try.checked) own started (by kernel_rfl) Try.func6
    (ChangeSpec.witness6 (enc := enc) (C := Try.checked) false ⟨#[], #[.slice none 0 0, .slice none 0 0, .slice none 0 0], []⟩ 8 (by kernel_rfl) (by kernel_rfl) (by kernel_rfl) (by kernel_rfl)) ?_
  intro W base args ds gs before hval0 hW _ hsz0 _
  have hsz : (DataW.weightsEach Try.prog (Try.f6.params.toList ++ Rows.sumThreeSpec.plain.varTypes Try.prog) (ds ++ gs)).all (· ≤ reachBytes) = true := hsz0
  have hval : ∀ (j : Nat) t v, Try.f6.params[j]? = some t → args[j]? = some v → Value.okWide Try.prog W .any base t v := hval0
  have hW' := hW
  obtain ⟨p, q, hA0, hV, rfl, _, _⟩ := hW
  have hA : DataW.TrodAll enc Try.prog W 0 (fun _ => true) true Try.f6.params.toList args.toList ds p := hA0
  rw [Try.params6] at hA hval hsz
  obtain ⟨v0, v1, v2, d0, d1, d2, p0, p1, p2, rfl, rfl, rfl, h0, h1, h2⟩ := trodAll_three hA
  obtain ⟨rfl, rfl⟩ := trodVars_none hV
  simp only [List.append_nil] at hW'
  have hlt0 : ∀ x ∈ p0, x.block < W.heap.size := fun x hx => hW'.lt x (by simp [hx])
  have h0k := h0
  obtain ⟨A0, L0, c0, rfl, lc0, cm0, B0, N0⟩ := open_bytes Try.underlying23 Try.underlying5 (by kernel_rfl) (hval 0 23 v0 rfl rfl) h0 (fun elems spare e => by
    subst e
    have := sized_slice hsz (j := 0) (t := 23) (e := 5) rfl rfl Try.underlying23
    rwa [show Try.prog.bytesOf 5 = 1 by kernel_rfl] at this)
  have hlt1 : ∀ x ∈ p1, x.block < W.heap.size := fun x hx => hW'.lt x (by simp [hx])
  have h1k := h1
  obtain ⟨A1, L1, c1, rfl, lc1, cm1, B1, N1⟩ := open_bytes Try.underlying23 Try.underlying5 (by kernel_rfl) (hval 1 23 v1 rfl rfl) h1 (fun elems spare e => by
    subst e
    have := sized_slice hsz (j := 1) (t := 23) (e := 5) rfl rfl Try.underlying23
    rwa [show Try.prog.bytesOf 5 = 1 by kernel_rfl] at this)
  have hlt2 : ∀ x ∈ p2, x.block < W.heap.size := fun x hx => hW'.lt x (by simp [hx])
  have h2k := h2
  obtain ⟨A2, L2, c2, rfl, lc2, cm2, B2, N2⟩ := open_bytes Try.underlying23 Try.underlying5 (by kernel_rfl) (hval 2 23 v2 rfl rfl) h2 (fun elems spare e => by
    subst e
    have := sized_slice hsz (j := 2) (t := 23) (e := 5) rfl rfl Try.underlying23
    rwa [show Try.prog.bytesOf 5 = 1 by kernel_rfl] at this)
  refine (sumthree_walk A0 L0 c0 A1 L1 c1 A2 L2 c2 W lc0 cm0 B0 N0 lc1 cm1 B1 N1 lc2 cm2 B2 N2).mono fun e W' ⟨he, hb⟩ => ?_
  subst he
  exact ⟨_, rfl, _, _, _, [], _, [], hW', trodAll_mk1 (shut_bool Try.underlying4 _), trodAll_mk3 (Below.trod laidOut (by kernel_rfl) (of_decide_eq_true (by kernel_rfl)) h0k hb hlt0) (Below.trod laidOut (by kernel_rfl) (of_decide_eq_true (by kernel_rfl)) h1k hb hlt1) (Below.trod laidOut (by kernel_rfl) (of_decide_eq_true (by kernel_rfl)) h2k hb hlt2), rfl, hb.frame _, fun h => by cases h⟩

theorem sumthree_holds : Rows.SumThreeSaid :=
  OpenClaim.holds_of_wide 6 Try.f6 rfl rfl rfl rfl rfl rfl rfl ⟨rfl, rfl, rfl, rfl, rfl⟩ rfl rfl rfl rfl rfl (by kernel_rfl) Try.func6 (by kernel_rfl)
    (of_decide_eq_true (by kernel_rfl)) (by unfold Func.isWrapper; first | (rw [if_pos (by decide +kernel)]; kernel_rfl) | (rw [if_neg (by decide +kernel)]; exact ⟨rfl, rfl⟩))
    (fun os started H enc _ => sumthree_lifted os started H enc)
end Go.Proofs.Ytmmclglbjjfcgaa
