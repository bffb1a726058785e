/- A table is read of its bytes. -/
import Derived.Test.YtindkpfmflcibaaGreatDoorMSsY
import Derived.Test.YtindkpfmflcibaaGreatDoorMSsG
namespace Go.Proofs.YtindkpfmflcibaaGreatDoor
open Go.RowKit Go.Maps Go.Sort Go.Shelf
set_option linter.unusedSimpArgs false

theorem insS_last {x : Se} : ∀ {L : List Se}, (∀ s ∈ L, s.id < x.id) → insS x L = L ++ [x]
  | [], _ => rfl
  | s :: L, h => by
    have h1 := h s (.head _)
    unfold insS
    rw [if_neg (by omega), insS_last fun t ht => h t (.tail _ ht)]
    rfl
/-- Those ahead have lesser ids. -/
theorem up_take {L : List Se} (h : L.Pairwise fun a b => a.id < b.id) {k : Nat} {s : Se} (hs : L[k]? = some s) : ∀ t ∈ L.take k, t.id < s.id := fun t ht => by
  obtain ⟨i, hi, rfl⟩ := List.mem_iff_getElem.1 ht
  obtain ⟨hk, rfl⟩ := List.getElem?_eq_some_iff.1 hs
  rw [List.length_take] at hi
  rw [List.getElem_take]
  exact List.pairwise_iff_getElem.1 h i k (by omega) hk (by omega)
theorem ins_take {L : List Se} (h : L.Pairwise fun a b => a.id < b.id) {k : Nat} {s : Se} (hs : L[k]? = some s) : insS s (L.take k) = L.take (k + 1) := by
  rw [insS_last (up_take h hs), List.take_add_one, hs]; rfl
/-- The id of the one ahead. -/
def befS (L : List Se) (k : Nat) : Int := ((L.take k).getLast?.map Se.id).getD 0
theorem befS_zero (L : List Se) : befS L 0 = 0 := by simp [befS]
theorem befS_succ {L : List Se} {k : Nat} {s : Se} (hs : L[k]? = some s) : befS L (k + 1) = s.id := by
  unfold befS; rw [List.take_add_one, hs]; simp
theorem befS_lt {L : List Se} (h : L.Pairwise fun a b => a.id < b.id) (h1 : ∀ s ∈ L, 1 ≤ s.id) {k : Nat} {s : Se} (hs : L[k]? = some s) : befS L k < s.id ∧ 0 ≤ befS L k := by
  unfold befS
  cases hl : (L.take k).getLast? with
  | none =>
    have := h1 s (List.mem_of_getElem? hs)
    simp; omega
  | some t =>
    have hm := List.mem_of_getLast? hl
    have := h1 t (List.mem_of_mem_take hm)
    exact ⟨up_take h hs t hm, by simp; omega⟩
theorem flat_ge {most : Nat} {L : List Se} (h : Tb most L) (R : List UInt8) : L.length ≤ (L.flatMap seB ++ R).length := by
  have key : ∀ M : List Se, (∀ s ∈ M, s ∈ L) → M.length ≤ (M.flatMap seB).length := by
    intro M
    induction M with
    | nil => intro _; simp
    | cons s M ih =>
      intro hM
      have h1 := (h.row (hM s (.head _))).1.1
      have h2 := ih fun t ht => hM t (.tail _ ht)
      rw [List.flatMap_cons, List.length_append, List.length_cons]
      omega
  rw [List.length_append]
  exact Nat.le_trans (key L fun _ h => h) (Nat.le_add_right _ _)
theorem drop_flat {L : List Se} {k : Nat} {s : Se} (hs : L[k]? = some s) (R : List UInt8) : (L.drop k).flatMap seB ++ R = putI s.id ++ (putI s.used ++ (putI s.seq ++ (putT (putP s.r) ++ ((L.drop (k + 1)).flatMap seB ++ R)))) := by
  obtain ⟨hk, rfl⟩ := List.getElem?_eq_some_iff.1 hs
  rw [List.drop_eq_getElem_cons hk, List.flatMap_cons]
  show (putI _ ++ putI _ ++ putI _ ++ putT _ ++ _) ++ R = _
  simp only [List.append_assoc]
/-- A map has turned: the reader has not. -/
theorem Rd.map {N : Nat} {w w' : World} {g M : Nat} {s : St} {es : Array MapEntry} {c : Nat} (hr : Rd N w g s) (h : w.heap[M]? = some (.map es c)) (hb : But2 M M w w') (hne : g ≠ M) : Rd N w' g s := by
  have hlt := hr.lt
  obtain ⟨h1, h2, h3, A', cap', h4, h5, h6⟩ := hr
  refine ⟨h1, h2, h3, A', cap', (hb.block g hlt hne hne).trans h4, h5, fun h0 => ?_⟩
  obtain ⟨k, off, e, hN, hc⟩ := h6 h0
  refine ⟨k, off, e, hN, fun j hj => ?_⟩
  have hcj := hc j hj
  have hk : k ≠ M := by
    rintro rfl
    unfold World.cell? at hcj
    rw [h] at hcj
    cases hcj
  have hkl : k < w.heap.size := by
    rcases Nat.lt_or_ge k w.heap.size with h | h
    · exact h
    · unfold World.cell? at hcj
      rw [Array.getElem?_eq_none h] at hcj
      cases hcj
  exact (World.cell?_of_block (w := w) (a := ⟨k, off + j, none⟩) (hb.block k hkl hk hk)).trans hcj
theorem Onl.both {g : Nat} {w x y : World} (h : Onl g w x) (k : Onl g x y) : Onl g w y :=
  ⟨k.os.trans h.os, k.tape.trans h.tape, k.output.trans h.output, Nat.le_trans h.size k.size, fun i hi hg => (k.block i (Nat.lt_of_lt_of_le hi h.size) hg).trans (h.block i hi hg)⟩
theorem Onl.map {g M : Nat} {w x y : World} (h : Onl g w x) (k : But2 M M x y) (hM : w.heap.size ≤ M) : Onl g w y :=
  ⟨k.os.trans h.os, k.tape.trans h.tape, k.output.trans h.output, Nat.le_trans h.size k.size, fun i hi hg => (k.block i (by have := h.size; omega) (by omega) (by omega)).trans (h.block i hi hg)⟩
theorem wi_yes {a n : Int} (h1 : a ≤ n) (h2 : n ≤ 1099511627776) : wi a n = true := by unfold wi; simp; omega
set_option maxHeartbeats 2000000 in
set_option maxRecDepth 100000 in
theorem stread_any (N g most : Nat) (L : List Se) (w : World) (ht : Tb most L) (h : Rd N w g (tabB L, false)) (wB : World) (hT : Tabs wB) (hTB : Below wB.heap.size wB w) (hg : wB.heap.size ≤ g) :
    Calls Tryz.prog 39 #[.pointer (some ⟨g, 0, none⟩), .int .i64 (most : Int)] w fun e w' => ∃ m, e = .returned (.tuple #[.map (some m), .bool true]) ∧ w.heap.size ≤ m ∧ MapT w' m L ∧ Rd N w' g ([], false) ∧ Onl g w w' := by
  have hlen := ht.len
  have hhi := ht.hi
  have e1 := stC_putR (n := (L.length : Int)) (most := (most : Int)) (L.flatMap seB) (by omega) (by omega) ⟨by omega, by omega, by have := flat_ge ht []; rw [List.append_nil] at this; omega⟩
  have hgl := h.lt
  have hmk := makeT w
  have b0 := Ss.below_alloc w (.map #[] 0)
  have h0 := h.below b0 (Nat.le_refl _)
  have m0 := MapT.new w
  have z0 : (w.alloc (.map #[] 0)).heap.size = w.heap.size + 1 := by simp
  have o0 := (Onl.refl g w).later b0
  obtain ⟨w0, hw0⟩ : ∃ x, w.alloc (.map #[] 0) = x := ⟨_, rfl⟩
  rw [hw0] at b0 h0 m0 z0 o0 hmk
  have c0 := rcount_any N g _ (most : Int) w0 h0
  unfold tabB at c0
  rw [e1] at c0
  dsimp only at c0
  obtain ⟨n, hn⟩ : ∃ n, L.length = n := ⟨_, rfl⟩
  rw [hn] at c0 hlen
  have HM0 := Lib.hid m0
  have HO0 := Lib.hid o0
  have hgM : g ≠ w.heap.size := by omega
  have HN := Lib.hid hn
  clear h h0 m0 o0 b0 e1 hn z0
  go_enter Tryz.func39, Tryz.ntmps39
  go_wp2_with fail
  refine c0.mono ?_
  rintro e w1 ⟨rfl, h1, o1⟩
  have HR1 := Lib.hid h1
  have HM1 : Hid (MapT w1 w.heap.size []) := Lib.hid (HM0.out.same (o1.block _ hgM.symm))
  have HO1 := Lib.hid (HO0.out.only o1)
  clear c0 h1 o1 HM0 HO0 hmk hw0
  go_wp2_with fail
  go_loopg [7, 15] (n) (fun m s7 s15 wr => ∃ k : Nat, k + m = n ∧ s15 = .int .i64 (k : Int) ∧ s7 = .int .i64 (befS L k) ∧ Hid (MapT wr w.heap.size (L.take k)) ∧ Hid (Rd N wr g ((L.drop k).flatMap seB ++ [], false)) ∧ Hid (Onl g w wr))
  case atStart => exact ⟨0, by omega, rfl, by rw [befS_zero], HM1, by rw [List.append_nil]; exact HR1, HO1⟩
  case round =>
    obtain ⟨k, hkm, rfl, rfl, HM, HR, HO⟩ := hrel
    have HKM := Lib.hid hkm
    clear HR1 HM1 HO1
    by_cases hk : k < n
    · have hkz : (k : Int) < (n : Int) := by omega
      have hs := List.getElem?_eq_getElem (l := L) (i := k) (by have := HN.out; omega)
      generalize L[k]'_ = s at hs
      have hmem := List.mem_of_getElem? hs
      obtain ⟨i0, i1⟩ := ht.id s hmem
      obtain ⟨u0, u1⟩ := ht.used s hmem
      obtain ⟨q0, q1⟩ := ht.seq s hmem
      obtain ⟨hb0, hb1⟩ := befS_lt ht.up (fun t h => (ht.id t h).1) hs
      have hz : 0 < s.seq ∨ sameR s.r.e s.r.n s.r.K s.r.m s.r.s 0 0 0 0 ⟨#[]⟩ = true := by
        rcases Int.lt_or_le 0 s.seq with h | h
        · exact .inl h
        · rw [ht.zer s hmem (by omega)]; exact .inr (by decide)
      have hR := HR.out
      rw [drop_flat hs] at hR
      have c1 := int_any N g _ wr hR
      rw [stI_put (by omega) (by omega)] at c1
      dsimp only at c1
      have cG := fun W H => stget1_any N g s.used s.seq s.r ((L.drop (k + 1)).flatMap seB ++ []) W H wB hT
      have cw1 := fun W => stwithin_any (befS L k + 1) s.id W
      rw [wi_yes (by omega) i1] at cw1
      have cw2 := fun W => stwithin_any s.id s.used W
      rw [wi_yes u0 u1] at cw2
      have hB1 : Hid (befS L (k + 1) = s.id) := Lib.hid (befS_succ hs)
      have hI1 := Lib.hid (ins_take ht.up hs)
      have hlt1 := Lib.hid (up_take ht.up hs)
      have hrin := ht.rin s hmem
      have hrep := ht.rep s hmem
      obtain ⟨R1, hR1⟩ : ∃ R1, (L.drop (k + 1)).flatMap seB ++ [] = R1 := ⟨_, rfl⟩
      rw [hR1] at c1 cG
      have HR1 := Lib.hid hR1
      obtain ⟨bf, hbf⟩ : ∃ b, befS L k = b := ⟨_, rfl⟩
      rw [hbf] at hb0 hb1 cw1 ⊢
      have hwr : wrap64 (bf + 1) = bf + 1 := by unfold wrap64; omega
      clear hR hR1 hbf hkm
      go_wp2_with fail
      refine c1.mono ?_
      rintro e w2 ⟨rfl, h2, o2⟩
      have HO2 := Lib.hid (HO.out.only o2)
      have HM2 : Hid (MapT w2 w.heap.size (L.take k)) := Lib.hid (HM.out.same (o2.block _ hgM.symm))
      have cG2 := cG w2 h2 (hTB.trans (HO2.out.below hg hTB.size)) hg (by omega) (by omega) q0 q1 hrin hrep hz
      clear c1 h2 o2 cG HO HM HR
      go_wp2_with fail
      refine cG2.mono ?_
      rintro e w3 ⟨rfl, h3, o3⟩
      have HO3 : Hid (Onl g w w3) := Lib.hid (HO2.out.both o3)
      have HM3 : Hid (MapT w3 w.heap.size (L.take k)) := Lib.hid (HM2.out.same (o3.block _ HM2.out.lt hgM.symm))
      have HR3 := Lib.hid h3
      have b4 := Ss.below_alloc w3 (.cells (cs7 0 0 ⟨0, 0, 0, 0, ⟨#[]⟩⟩) 68)
      have S4 := Blk.new w3 (cs7 0 0 ⟨0, 0, 0, 0, ⟨#[]⟩⟩) 68
      obtain ⟨w4, hw4⟩ : ∃ x, w3.alloc (.cells (cs7 0 0 ⟨0, 0, 0, 0, ⟨#[]⟩⟩) 68) = x := ⟨_, rfl⟩
      rw [hw4] at b4 S4
      have h4 := HR3.out.below b4 (Nat.le_refl _)
      have hM4 := HM3.out.later b4
      have hO4 := HO3.out.later b4
      have hgG : g ≠ w3.heap.size := by have := HR3.out.lt; omega
      have hMG : w.heap.size ≠ w3.heap.size := by have := HM3.out.lt; omega
      have hwG : w.heap.size ≤ w3.heap.size := HO3.out.size
      obtain ⟨G, hG⟩ : ∃ G, w3.heap.size = G := ⟨_, rfl⟩
      rw [hG] at S4 hgG hMG hwG
      obtain ⟨w5, hw5⟩ : ∃ x, x = (((((((w4.setCell ⟨G, 0, none⟩ (.int .i64 s.used)).setCell ⟨G, 1, none⟩ (.int .i64 s.seq)).setCell ⟨G, 2, none⟩ (.int .i64 s.r.e)).setCell ⟨G, 3, none⟩ (.int .i64 s.r.n)).setCell ⟨G, 4, none⟩ (.int .i64 s.r.K)).setCell ⟨G, 5, none⟩ (.int .i64 s.r.m)).setCell ⟨G, 6, none⟩ (.string s.r.s)) := ⟨_, rfl⟩
      obtain ⟨S5, o5⟩ := blk_set7 S4 s.used s.seq s.r w5 hw5
      have h5 := h4.blk S4 (noU8_7 _ _ _) o5 hgG
      have hM5 : MapT w5 w.heap.size (L.take k) := hM4.same (o5.block _ hMG)
      have hO5 := hO4.new o5 hwG
      obtain ⟨w6, hput, hbM, hM6⟩ := insT (a := w.heap.size) s hM5 (List.Pairwise.sublist (List.take_sublist k L) ht.up) (fun t h => by have := hlt1.out t h; omega)
      rw [hI1.out] at hM6
      have hput' : (Instr.mapUpdate 42 (.map (some w.heap.size)) (.int .i64 s.id) (.agg #[.int .i64 s.used, .int .i64 s.seq, .int .i64 s.r.e, .int .i64 s.r.n, .int .i64 s.r.K, .int .i64 s.r.m, .string s.r.s])).run Tryz.prog w5 = .ok () w6 := hput
      obtain ⟨es5, cl5, hb5, -⟩ := hM5
      have HR6 := Lib.hid (h5.map hb5 hbM hgM)
      have HO6 := Lib.hid (hO5.map hbM (Nat.le_refl _))
      have HM6 := Lib.hid hM6
      have HS5 := Lib.hid S5
      have HW5 := Lib.hid hw5
      obtain ⟨-, y0, y1, y2, y3, y4, y5, y6, yf⟩ := sev_of_block (u := 0) (q := 0) (r := ⟨0, 0, 0, 0, ⟨#[]⟩⟩) S4
      have f0 := yf 0
      have f1 := yf 1
      have f2 := yf 2
      have f3 := yf 3
      have f4 := yf 4
      have f5 := yf 5
      have f6 := yf 6
      clear hput hbM hM6 S5 hw5 h5 hO5 h4 hM4 hO4 b4 o5 hb5 S4 yf HR3 HO3 HM3 h3 o3 HO2 HM2 cG2
      go_wp2_with fail
      rw [← HW5.out]
      try rw [hwr]
      refine (cw1 _).mono ?_
      rintro e w7 ⟨rfl, rfl⟩
      clear y0 y1 y2 y3 y4 y5 y6 f0 f1 f2 f3 f4 f5 f6 hw4 cw1 HW5
      obtain ⟨-, y0, y1, y2, y3, y4, y5, y6, -⟩ := sev_of_block (u := s.used) (q := s.seq) (r := s.r) HS5.out
      go_wp2_with fail
      refine (cw2 _).mono ?_
      rintro e w7 ⟨rfl, rfl⟩
      go_wp2_with fail
      go_roundg (n - (k + 1))
      case measure => have := HKM.out; omega
      case rel => exact ⟨k + 1, by have := HKM.out; omega, by go_num, by rw [hB1.out], HM6, by rw [HR1.out]; exact HR6, HO6⟩
    · have hkn : k = L.length := by have := HN.out; omega
      have hkz : ¬ (k : Int) < (n : Int) := by omega
      rw [hkn, List.take_length] at HM
      rw [hkn, List.drop_length] at HR
      have cO := ok_any N g _ wr HR.out
      go_wp2_with fail
      refine cO.mono ?_
      rintro e w2 ⟨rfl, rfl⟩
      go_wp2_with fail
      go_ret2
      exact ⟨w.heap.size, rfl, Nat.le_refl _, HM.out, HR.out, HO.out⟩
end Go.Proofs.YtindkpfmflcibaaGreatDoor
