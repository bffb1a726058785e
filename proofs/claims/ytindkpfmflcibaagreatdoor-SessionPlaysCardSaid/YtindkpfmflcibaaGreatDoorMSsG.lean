/- A session is read of its bytes. -/
import Derived.Test.YtindkpfmflcibaaGreatDoorMSsX
import Derived.Test.YtindkpfmflcibaaGreatDoorMRpG
import Derived.Test.YtindkpfmflcibaaGreatDoorMCmS
import Derived.Laws.IdiomStrings
namespace Go.Proofs.YtindkpfmflcibaaGreatDoor
open Go.RowKit Go.Maps Go.Sort Go.Shelf
set_option linter.unusedSimpArgs false

theorem below_grow1 {w : World} (o : Obj) : Below w.heap.size w (w.drew.alloc o) := by
  have h1 := (Below.refl w.heap.size w).drew
  exact h1.alloc (Nat.le_refl _) o
/-- A text as bytes, in new memory. -/
theorem bytes_text (w : World) (s : ByteArray) : ∃ (cap : Nat) (w' : World), (convert 9 35 (.string s)).run Tryz.prog w = .ok (.slice (some ⟨w.heap.size, 0, none⟩) s.size cap) w' ∧ Bs w' (some ⟨w.heap.size, 0, none⟩) s.data.toList ∧ Below w.heap.size w w' := by
  refine ⟨_, _, run_bytes_of_string w _ _ _ s Tryz.underlying9 Tryz.underlying35 Tryz.underlying5, fun _ => ⟨_, 0, rfl, fun j hj => ?_⟩, below_grow1 _⟩
  have hj2 : j < s.data.size := by simpa using hj
  rw [Nat.zero_add]
  show (w.drew.alloc _).cell? ⟨w.drew.heap.size, j, none⟩ = _
  rw [cell_of_row _ _ j _ _ _ (heap_alloc_new w.drew _), bytesRow_at s _ j hj2, List.getD_eq_getElem?_getD, List.getElem?_eq_getElem hj]
  simp
theorem bytes_list (w : World) (P : List UInt8) : ∃ (cap : Nat) (w' : World), (convert 9 35 (.string ⟨P.toArray⟩)).run Tryz.prog w = .ok (.slice (some ⟨w.heap.size, 0, none⟩) P.length cap) w' ∧ Bs w' (some ⟨w.heap.size, 0, none⟩) P ∧ Below w.heap.size w w' := by
  obtain ⟨cap, w', h1, h2, h3⟩ := bytes_text w ⟨P.toArray⟩
  have e : (⟨P.toArray⟩ : ByteArray).size = P.length := by show P.toArray.size = _; simp
  rw [e] at h1
  exact ⟨cap, w', h1, by simpa using h2, h3⟩
/-- Seven cells are stored, five of them, five of five. -/
theorem blk_set7 {w : World} {b : Nat} {t : TypeId} {x y : Int} {z : Rp} (h : Blk w b t (cs7 x y z)) (u q : Int) (r : Rp) :
    ∀ w', w' = (((((((w.setCell ⟨b, 0, none⟩ (.int .i64 u)).setCell ⟨b, 1, none⟩ (.int .i64 q)).setCell ⟨b, 2, none⟩ (.int .i64 r.e)).setCell ⟨b, 3, none⟩ (.int .i64 r.n)).setCell ⟨b, 4, none⟩ (.int .i64 r.K)).setCell ⟨b, 5, none⟩ (.int .i64 r.m)).setCell ⟨b, 6, none⟩ (.string r.s)) →
    Blk w' b t (cs7 u q r) ∧ Only b w w' := by
  rintro _ rfl
  refine ⟨?_, ((((((((Only.refl b w).setCell 0 _).setCell 1 _).setCell 2 _).setCell 3 _).setCell 4 _).setCell 5 _).setCell 6 _)⟩
  have := ((((((h.set 0 (.int .i64 u)).set 1 (.int .i64 q)).set 2 (.int .i64 r.e)).set 3 (.int .i64 r.n)).set 4 (.int .i64 r.K)).set 5 (.int .i64 r.m)).set 6 (.string r.s)
  simpa using this
theorem blk_set5 {w : World} {b : Nat} {t : TypeId} {x y : Int} {z : Rp} (h : Blk w b t (cs7 x y z)) (r : Rp) :
    ∀ w', w' = (((((w.setCell ⟨b, 2, none⟩ (.int .i64 r.e)).setCell ⟨b, 3, none⟩ (.int .i64 r.n)).setCell ⟨b, 4, none⟩ (.int .i64 r.K)).setCell ⟨b, 5, none⟩ (.int .i64 r.m)).setCell ⟨b, 6, none⟩ (.string r.s)) →
    Blk w' b t (cs7 x y r) ∧ Only b w w' := by
  rintro _ rfl
  refine ⟨?_, ((((((Only.refl b w).setCell 2 _).setCell 3 _).setCell 4 _).setCell 5 _).setCell 6 _)⟩
  have := ((((h.set 2 (.int .i64 r.e)).set 3 (.int .i64 r.n)).set 4 (.int .i64 r.K)).set 5 (.int .i64 r.m)).set 6 (.string r.s)
  simpa using this
theorem blk_five {w : World} {b : Nat} {t : TypeId} {e n K m : Int} {x : ByteArray} (h : Blk w b t (cs5 e n K m x)) (r : Rp) :
    ∀ w', w' = (((((w.setCell ⟨b, 0, none⟩ (.int .i64 r.e)).setCell ⟨b, 1, none⟩ (.int .i64 r.n)).setCell ⟨b, 2, none⟩ (.int .i64 r.K)).setCell ⟨b, 3, none⟩ (.int .i64 r.m)).setCell ⟨b, 4, none⟩ (.string r.s)) →
    Blk w' b t (cs5 r.e r.n r.K r.m r.s) ∧ Only b w w' := by
  rintro _ rfl
  refine ⟨?_, ((((((Only.refl b w).setCell 0 _).setCell 1 _).setCell 2 _).setCell 3 _).setCell 4 _)⟩
  have := ((((h.set 0 (.int .i64 r.e)).set 1 (.int .i64 r.n)).set 2 (.int .i64 r.K)).set 3 (.int .i64 r.m)).set 4 (.string r.s)
  simpa using this
theorem noU8_7 (u q : Int) (r : Rp) : noU8 (cs7 u q r) = true := by simp [noU8]
set_option maxHeartbeats 2000000 in
set_option maxRecDepth 100000 in
theorem stget1_any (N g : Nat) (u q : Int) (r : Rp) (R : List UInt8) (w : World) (h : Rd N w g (putI u ++ (putI q ++ (putT (putP r) ++ R)), false)) (wB : World) (hT : Tabs wB) (hTB : Below wB.heap.size wB w) (hg : wB.heap.size ≤ g) (u0 : -9223372036854775808 ≤ u) (u1 : u ≤ 9223372036854775807) (q0 : 0 ≤ q) (q1 : q ≤ 1099511627776)
    (hi : r.In) (hc : repB r = true) (ha : 0 < q ∨ sameR r.e r.n r.K r.m r.s 0 0 0 0 ⟨#[]⟩ = true) : Calls Tryz.prog 64 #[.pointer (some ⟨g, 0, none⟩)] w fun e w' => e = .returned (.tuple #[V7 u q r, .bool true]) ∧ Rd N w' g (R, false) ∧ Onl g w w' := by
  have hs4 := checkB_len (repB_check hc)
  have hpl := putP_len hi (by omega)
  have e1 := stI_put u0 u1 (putI q ++ (putT (putP r) ++ R)) false
  have e2 := stI_put (v := q) (by omega) (by omega) (putT (putP r) ++ R) false
  have e3 := stT_putR (s := putP r) (most := ((putT (putP r) ++ R).length : Int)) R (by omega) (by unfold putT; simp only [List.length_append]; omega)
  have eP := getP_put hi hc
  have hgl := h.lt
  have b0 := Ss.below_alloc w (.cells (cs7 0 0 ⟨0, 0, 0, 0, ⟨#[]⟩⟩) 68)
  have R0 := Blk.new w (cs7 0 0 ⟨0, 0, 0, 0, ⟨#[]⟩⟩) 68
  have h0 := h.below b0 (Nat.le_refl _)
  have z0 : (w.alloc (.cells (cs7 0 0 ⟨0, 0, 0, 0, ⟨#[]⟩⟩) 68)).heap.size = w.heap.size + 1 := by simp
  have o0 := (Onl.refl g w).later b0
  obtain ⟨w0, hw0⟩ : ∃ w0, w.alloc (.cells (cs7 0 0 ⟨0, 0, 0, 0, ⟨#[]⟩⟩) 68) = w0 := ⟨_, rfl⟩
  rw [hw0] at b0 R0 h0 z0 o0
  have c1 := int_any N g _ w0 h0
  rw [e1] at c1
  dsimp only at c1
  obtain ⟨P, hP⟩ : ∃ P, putP r = P := ⟨_, rfl⟩
  rw [hP] at c1 e2 e3 eP hpl
  obtain ⟨S2, hS2⟩ : ∃ S, putT P ++ R = S := ⟨_, rfl⟩
  rw [hS2] at c1 e2 e3
  obtain ⟨S1, hS1⟩ : ∃ S, putI q ++ S2 = S := ⟨_, rfl⟩
  rw [hS1] at c1 e2
  have hgr : g ≠ w.heap.size := by omega
  have HR0 := Lib.hid R0
  have HO0 := Lib.hid o0
  have HT := fun (w' : World) (ho : Onl g w w') => hT.later (hTB.trans (ho.below hg hTB.size))
  clear h h0 b0 R0 o0 hT hTB hg e1 hi hc hs4 hS1 hS2 hP
  go_enter Tryz.func64, Tryz.ntmps64
  go_wp2_with fail
  refine c1.mono ?_
  rintro e w1 ⟨rfl, h1, o1⟩
  have z1 : w1.heap.size = w.heap.size + 1 := o1.size.trans z0
  have HR1 := Lib.hid (HR0.out.only o1 hgr.symm)
  have HO1 := Lib.hid (HO0.out.only o1)
  have b1 := Ss.below_alloc w1 (.cells (cs7 0 0 ⟨0, 0, 0, 0, ⟨#[]⟩⟩) 68)
  have C2 := Blk.new w1 (cs7 0 0 ⟨0, 0, 0, 0, ⟨#[]⟩⟩) 68
  have z2 : (w1.alloc (.cells (cs7 0 0 ⟨0, 0, 0, 0, ⟨#[]⟩⟩) 68)).heap.size = w.heap.size + 2 := by simp [z1]
  have h2 := h1.below b1 (Nat.le_refl _)
  obtain ⟨w2, hw2⟩ : ∃ w2, w1.alloc (.cells (cs7 0 0 ⟨0, 0, 0, 0, ⟨#[]⟩⟩) 68) = w2 := ⟨_, rfl⟩
  rw [hw2] at b1 C2 h2 z2
  rw [z1] at C2
  have hR2 := HR1.out.later b1
  have hO2 := HO1.out.later b1
  obtain ⟨-, y0, y1, y2, y3, y4, y5, y6, yf⟩ := sev_of_block (u := 0) (q := 0) (r := ⟨0, 0, 0, 0, ⟨#[]⟩⟩) C2
  have f0 := yf 0
  have f1 := yf 1
  have f2 := yf 2
  have f3 := yf 3
  have f4 := yf 4
  have f5 := yf 5
  have f6 := yf 6
  obtain ⟨w3, hw3⟩ : ∃ x, x = (((((((w2.setCell ⟨w.heap.size + 1, 0, none⟩ (.int .i64 u)).setCell ⟨w.heap.size + 1, 1, none⟩ (.int .i64 0)).setCell ⟨w.heap.size + 1, 2, none⟩ (.int .i64 0)).setCell ⟨w.heap.size + 1, 3, none⟩ (.int .i64 0)).setCell ⟨w.heap.size + 1, 4, none⟩ (.int .i64 0)).setCell ⟨w.heap.size + 1, 5, none⟩ (.int .i64 0)).setCell ⟨w.heap.size + 1, 6, none⟩ (.string ⟨#[]⟩)) := ⟨_, rfl⟩
  obtain ⟨C3, o3⟩ := blk_set7 C2 u 0 ⟨0, 0, 0, 0, ⟨#[]⟩⟩ w3 hw3
  have h3 := h2.blk C2 (noU8_7 _ _ _) o3 (by omega)
  have hR3 := hR2.only o3 (by omega)
  have hO3 := hO2.new o3 (by omega)
  have z3 := o3.size.trans z2
  have c2 := int_any N g _ w3 h3
  rw [e2] at c2
  dsimp only at c2
  have HC3 := Lib.hid C3
  have HR3 := Lib.hid hR3
  have HO3 := Lib.hid hO3
  clear c1 b1 C2 C3 h1 h2 h3 hw0 o1 HR0 HO0 HR1 HO1 z0 hR2 hO2 hR3 hO3 o3 yf
  go_wp2_with fail
  rw [← hw3]
  refine c2.mono ?_
  rintro e w4 ⟨rfl, h4, o4⟩
  have hC4 := HC3.out.only o4 (show w.heap.size + 1 ≠ g by omega)
  have hR4 := HR3.out.only o4 hgr.symm
  have hO4 := HO3.out.only o4
  have z4 := o4.size.trans z3
  have k1 := hC4.thaw 1
  obtain ⟨-, -, k2, -⟩ := sev_of_block (u := u) (q := 0) (r := ⟨0, 0, 0, 0, ⟨#[]⟩⟩) hC4
  obtain ⟨w5, hw5⟩ : ∃ x, x = w4.setCell ⟨w.heap.size + 1, 1, none⟩ (.int .i64 q) := ⟨_, rfl⟩
  have hC5 : Blk w5 (w.heap.size + 1) 68 (cs7 u q ⟨0, 0, 0, 0, ⟨#[]⟩⟩) := by rw [hw5]; exact hC4.set 1 _
  have o5 : Only (w.heap.size + 1) w4 w5 := by rw [hw5]; exact Only.one _ _ _ _
  have h5 := h4.blk hC4 (noU8_7 _ _ _) o5 (by omega)
  have hR5 := hR4.only o5 (by omega)
  have hO5 := hO4.new o5 (by omega)
  have z5 := o5.size.trans z4
  have c3 := left_any N g _ w5 h5
  dsimp only at c3
  have c4 := wtext_any N g _ (S2.length : Int) w5 h5
  rw [e3] at c4
  dsimp only at c4
  have HC5 := Lib.hid hC5
  have HR5 := Lib.hid hR5
  have HO5 := Lib.hid hO5
  clear c2 y0 y1 y2 y3 y4 y5 y6 f0 f1 f2 f3 f4 f5 f6 h4 o4 hC4 hR4 hO4 o5 h5 hR5 hO5 HC3 HR3 HO3 hw2 hw3 z1 z2 z3 z4 hC5
  go_wp2_with fail
  rw [← hw5]
  refine c3.mono ?_
  rintro e w6 ⟨rfl, rfl⟩
  clear c3 hw5
  go_wp2_with fail
  refine c4.mono ?_
  rintro e w6 ⟨rfl, h6, o6⟩
  have hC6 := HC5.out.only o6 (show w.heap.size + 1 ≠ g by omega)
  have hR6 := HR5.out.only o6 hgr.symm
  have hO6 := HO5.out.only o6
  have z6 := o6.size.trans z5
  obtain ⟨cap7, w7, cv, hB7, b7⟩ := bytes_list w6 P
  have h7 := h6.below b7 (Nat.le_refl _)
  have HC7 := Lib.hid (hC6.later b7)
  have HR7 := Lib.hid (hR6.later b7)
  have hO7 := hO6.later b7
  have HO7 := Lib.hid hO7
  have H7 := Lib.hid h7
  have c5 := pgetr_any (some ⟨w6.heap.size, 0, none⟩) P cap7 w7 (by omega) hB7 (fun h => nomatch h) (HT w7 hO7)
  rw [eP] at c5
  rw [z6] at cv c5
  have z7 : w.heap.size + 2 ≤ w7.heap.size := by have := b7.size; omega
  clear c4 k1 k2 h6 o6 hC6 hR6 hO6 hB7 b7 hO7 HC5 HR5 HO5 h7 HT eP z5
  go_wp2_with fail
  refine c5.mono ?_
  rintro e w8 ⟨rfl, b8⟩
  have z8 : w.heap.size + 2 ≤ w8.heap.size := Nat.le_trans z7 b8.size
  have hC8 := HC7.out.later b8
  have hR8 := HR7.out.later b8
  have hO8 := HO7.out.later b8
  have h8 := H7.out.below b8 (Nat.le_refl _)
  have b9 := Ss.below_alloc w8 (.cells (cs5 0 0 0 0 ⟨#[]⟩) 34)
  have P9 := Blk.new w8 (cs5 0 0 0 0 ⟨#[]⟩) 34
  obtain ⟨w9, hw9⟩ : ∃ x, w8.alloc (.cells (cs5 0 0 0 0 ⟨#[]⟩) 34) = x := ⟨_, rfl⟩
  rw [hw9] at b9 P9
  have hC9 := hC8.later b9
  have hR9 := hR8.later b9
  have hO9 := hO8.later b9
  have h9 := h8.below b9 (Nat.le_refl _)
  obtain ⟨G, hG⟩ : ∃ G, w8.heap.size = G := ⟨_, rfl⟩
  rw [hG] at P9 z8
  obtain ⟨w10, hw10⟩ : ∃ x, x = (((((w9.setCell ⟨G, 0, none⟩ (.int .i64 r.e)).setCell ⟨G, 1, none⟩ (.int .i64 r.n)).setCell ⟨G, 2, none⟩ (.int .i64 r.K)).setCell ⟨G, 3, none⟩ (.int .i64 r.m)).setCell ⟨G, 4, none⟩ (.string r.s)) := ⟨_, rfl⟩
  obtain ⟨P10, o10⟩ := blk_five P9 r w10 hw10
  have hC10 := hC9.only o10 (by omega)
  have hR10 := hR9.only o10 (by omega)
  have hO10 := hO9.new o10 (by omega)
  have h10 := h9.blk P9 (noU8_5 _ _ _ _ _) o10 (by omega)
  obtain ⟨w11, hw11⟩ : ∃ x, x = (((((w10.setCell ⟨w.heap.size + 1, 2, none⟩ (.int .i64 r.e)).setCell ⟨w.heap.size + 1, 3, none⟩ (.int .i64 r.n)).setCell ⟨w.heap.size + 1, 4, none⟩ (.int .i64 r.K)).setCell ⟨w.heap.size + 1, 5, none⟩ (.int .i64 r.m)).setCell ⟨w.heap.size + 1, 6, none⟩ (.string r.s)) := ⟨_, rfl⟩
  obtain ⟨C11, o11⟩ := blk_set5 hC10 r w11 hw11
  have hR11 := hR10.only o11 (by omega)
  have hO11 := hO10.new o11 (by omega)
  have h11 := h10.blk hC10 (noU8_7 _ _ _) o11 (by omega)
  have HC11 := Lib.hid C11
  have HR11 := Lib.hid hR11
  have HO11 := Lib.hid hO11
  have H11 := Lib.hid h11
  have HW := Lib.hid (And.intro hw10 hw11)
  obtain ⟨x0, x1, x2, x3, x4, -, -, -⟩ := P9.t8
  obtain ⟨-, y0, y1, y2, y3, y4⟩ := P9.c5
  obtain ⟨-, k0, k1, k2, k3, k4, k5, k6, kf⟩ := sev_of_block (u := u) (q := q) (r := ⟨0, 0, 0, 0, ⟨#[]⟩⟩) hC9
  have f2 := kf 2
  have f3 := kf 3
  have f4 := kf 4
  have f5 := kf 5
  have f6 := kf 6
  have n1 : ¬ G = w.heap.size + 1 := by omega
  have n2 : ¬ w.heap.size + 1 = G := by omega
  clear hC8 hR8 hO8 h8 b8 b9 P9 hC9 hR9 hO9 h9 hw10 hw11 P10 o10 hC10 hR10 hO10 h10 C11 o11 hR11 hO11 h11 kf cv c5 HC7 HR7 HO7 H7 z7 e2 e3
  obtain ⟨ex, nx, kx, mx, sx⟩ := r
  dsimp only at *
  have cw := fun W => stwithin_any 0 q W
  rw [show wi 0 q = true by unfold wi; simp; omega] at cw
  have heq := fun W => eql_rep ex nx kx mx sx 0 0 0 0 ⟨#[]⟩ W
  by_cases hq : 0 < q
  · go_wp2_with fail
    rw [← HW.out.1, ← HW.out.2]
    clear x0 x1 x2 x3 x4 y0 y1 y2 y3 y4 k0 k1 k2 k3 k4 k5 k6 f2 f3 f4 f5 f6 heq
    obtain ⟨-, c0, c1, c2, c3, c4, c5, c6, -⟩ := sev_of_block (u := u) (q := q) (r := ⟨ex, nx, kx, mx, sx⟩) HC11.out
    obtain ⟨-, d0, d1, d2, d3, d4, d5, d6, df⟩ := sev_of_block (u := 0) (q := 0) (r := ⟨0, 0, 0, 0, ⟨#[]⟩⟩) HR11.out
    have f0 := df 0
    have f1 := df 1
    have f2 := df 2
    have f3 := df 3
    have f4 := df 4
    have f5 := df 5
    have f6 := df 6
    dsimp only at c0 c1 c2 c3 c4 c5 c6 d0 d1 d2 d3 d4 d5 d6
    clear df
    go_region_with (go_at_call 30; refine (cw _).mono ?_; rintro e wy ⟨rfl, rfl⟩)
    all_goals go_wp2_with fail
    all_goals
      obtain ⟨wz, hwz⟩ : ∃ x, x = (((((((w11.setCell ⟨w.heap.size, 0, none⟩ (.int .i64 u)).setCell ⟨w.heap.size, 1, none⟩ (.int .i64 q)).setCell ⟨w.heap.size, 2, none⟩ (.int .i64 ex)).setCell ⟨w.heap.size, 3, none⟩ (.int .i64 nx)).setCell ⟨w.heap.size, 4, none⟩ (.int .i64 kx)).setCell ⟨w.heap.size, 5, none⟩ (.int .i64 mx)).setCell ⟨w.heap.size, 6, none⟩ (.string sx)) := ⟨_, rfl⟩
      obtain ⟨R7, o7⟩ := blk_set7 HR11.out u q ⟨ex, nx, kx, mx, sx⟩ wz hwz
      have hOz := (HO11.out.new o7 (Nat.le_refl _)).later ((Below.refl _ _).drew)
      have hRz := (H11.out.blk HR11.out (noU8_7 _ _ _) o7 hgr).drew
      have HZ := Lib.hid (And.intro hRz hOz)
      rw [← hwz]
      obtain ⟨-, p0, p1, p2, p3, p4, p5, p6, -⟩ := sev_of_block (u := u) (q := q) (r := ⟨ex, nx, kx, mx, sx⟩) R7
      dsimp only at p0 p1 p2 p3 p4 p5 p6
      clear hwz R7 o7 hOz hRz c0 c1 c2 c3 c4 c5 c6 d0 d1 d2 d3 d4 d5 d6 f0 f1 f2 f3 f4 f5 f6
      refine bodyPost_ret (v := .tuple #[V7 u q ⟨ex, nx, kx, mx, sx⟩, .bool true]) (by simp [results, Tryz.results64, go_sem, p0, p1, p2, p3, p4, p5, p6]) rfl ?_
      exact ⟨rfl, HZ.out.1, HZ.out.2⟩
  · have ha2 := ha.resolve_left hq
    simp only [ha2] at heq
    go_wp2_with fail
    rw [← HW.out.1, ← HW.out.2]
    clear x0 x1 x2 x3 x4 y0 y1 y2 y3 y4 k0 k1 k2 k3 k4 k5 k6 f2 f3 f4 f5 f6 heq
    obtain ⟨-, c0, c1, c2, c3, c4, c5, c6, -⟩ := sev_of_block (u := u) (q := q) (r := ⟨ex, nx, kx, mx, sx⟩) HC11.out
    obtain ⟨-, d0, d1, d2, d3, d4, d5, d6, df⟩ := sev_of_block (u := 0) (q := 0) (r := ⟨0, 0, 0, 0, ⟨#[]⟩⟩) HR11.out
    have f0 := df 0
    have f1 := df 1
    have f2 := df 2
    have f3 := df 3
    have f4 := df 4
    have f5 := df 5
    have f6 := df 6
    dsimp only at c0 c1 c2 c3 c4 c5 c6 d0 d1 d2 d3 d4 d5 d6
    clear df
    go_region_with (go_at_call 30; refine (cw _).mono ?_; rintro e wy ⟨rfl, rfl⟩)
    all_goals go_wp2_with fail
    all_goals
      obtain ⟨wz, hwz⟩ : ∃ x, x = (((((((w11.setCell ⟨w.heap.size, 0, none⟩ (.int .i64 u)).setCell ⟨w.heap.size, 1, none⟩ (.int .i64 q)).setCell ⟨w.heap.size, 2, none⟩ (.int .i64 ex)).setCell ⟨w.heap.size, 3, none⟩ (.int .i64 nx)).setCell ⟨w.heap.size, 4, none⟩ (.int .i64 kx)).setCell ⟨w.heap.size, 5, none⟩ (.int .i64 mx)).setCell ⟨w.heap.size, 6, none⟩ (.string sx)) := ⟨_, rfl⟩
      obtain ⟨R7, o7⟩ := blk_set7 HR11.out u q ⟨ex, nx, kx, mx, sx⟩ wz hwz
      have hOz := (HO11.out.new o7 (Nat.le_refl _)).later ((Below.refl _ _).drew)
      have hRz := (H11.out.blk HR11.out (noU8_7 _ _ _) o7 hgr).drew
      have HZ := Lib.hid (And.intro hRz hOz)
      rw [← hwz]
      obtain ⟨-, p0, p1, p2, p3, p4, p5, p6, -⟩ := sev_of_block (u := u) (q := q) (r := ⟨ex, nx, kx, mx, sx⟩) R7
      dsimp only at p0 p1 p2 p3 p4 p5 p6
      clear hwz R7 o7 hOz hRz c0 c1 c2 c3 c4 c5 c6 d0 d1 d2 d3 d4 d5 d6 f0 f1 f2 f3 f4 f5 f6
      refine bodyPost_ret (v := .tuple #[V7 u q ⟨ex, nx, kx, mx, sx⟩, .bool true]) (by simp [results, Tryz.results64, go_sem, p0, p1, p2, p3, p4, p5, p6]) rfl ?_
      exact ⟨rfl, HZ.out.1, HZ.out.2⟩
end Go.Proofs.YtindkpfmflcibaaGreatDoor
