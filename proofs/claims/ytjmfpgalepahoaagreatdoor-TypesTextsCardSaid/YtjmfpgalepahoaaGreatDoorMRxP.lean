/- The document's own parser: its block; tok, sign, wrong, must, two. -/
import Derived.Test.YtjmfpgalepahoaaGreatDoorGL
import Derived.Test.YtjmfpgalepahoaaGreatDoorMLexRL
namespace Go.Proofs.YtjmfpgalepahoaaGreatDoor
open Go.RowKit

/-- The document's parser in its block; bad below 0: nothing is wrong yet. -/
structure XG (w0 w : World) (g : Nat) (T : List Tk) (h cap i : Nat) (bad : Int) : Prop where
  env : EnvP w0
  base : Below w0.heap.size w0 w
  gz : w0.heap.size ≤ g
  good : GoodT T
  lt : i < T.length
  le : T.length ≤ cap
  big : T.length ≤ 1000
  bad1 : bad ≤ 1000
  obj : w.heap[g]? = some (.cells #[.slice (some ⟨h, 0, none⟩) T.length cap, .int .i64 (i : Int), .int .i64 bad, .int .i64 0] 58 (0, 0))
  hg : h < g
  row : TRow w h T
section
variable {w0 w w' : World} {g : Nat} {T : List Tk} {h cap i : Nat} {bad : Int}
theorem XG.glt (p : XG w0 w g T h cap i bad) : g < w.heap.size := (Array.getElem?_eq_some_iff.1 p.obj).1
theorem XG.later (p : XG w0 w g T h cap i bad) (hb : Below w.heap.size w w') : XG w0 w' g T h cap i bad :=
  ⟨p.env, below_to p.base hb, p.gz, p.good, p.lt, p.le, p.big, p.bad1, by rw [hb.block _ p.glt]; exact p.obj, p.hg, p.row.away (g := g) (.of hb) (by have := p.hg; omega)⟩
theorem XG.now (p : XG w0 w g T h cap i bad) : EnvP w := p.env.later p.base
theorem XG.cells (p : XG w0 w g T h cap i bad) : w.cell? ⟨g, 0, none⟩ = some (.slice (some ⟨h, 0, none⟩) T.length cap) ∧ w.cell? ⟨g, 1, none⟩ = some (.int .i64 (i : Int)) ∧ w.cell? ⟨g, 2, none⟩ = some (.int .i64 bad) ∧ w.frozen? ⟨g, 1, none⟩ = false ∧ w.frozen? ⟨g, 2, none⟩ = false := by
  refine ⟨?_, ?_, ?_, ?_, ?_⟩
  · rw [cell_of_row w g 0 _ _ _ p.obj]; rfl
  · rw [cell_of_row w g 1 _ _ _ p.obj]; rfl
  · rw [cell_of_row w g 2 _ _ _ p.obj]; rfl
  · simp [World.frozen?, p.obj]
  · simp [World.frozen?, p.obj]
theorem XG.goes (p : XG w0 w g T h cap i bad) {j : Nat} {z : Int} (hj : j < T.length) (hz : z = (j : Int)) : XG w0 (w.setCell ⟨g, 1, none⟩ (.int .i64 z)) g T h cap j bad := by
  subst hz
  exact ⟨p.env, p.base.setCell (p := ⟨g, 1, none⟩) p.gz _, p.gz, p.good, hj, p.le, p.big, p.bad1, by rw [heap_setCell_same w g 1 _ _ _ p.obj]; rfl, p.hg, p.row.away (g := g) ((Away.refl g w).set 1 _) (by have := p.hg; omega)⟩
theorem XG.spoilt (p : XG w0 w g T h cap i bad) {b : Int} (hb : b ≤ 1000) : XG w0 (w.setCell ⟨g, 2, none⟩ (.int .i64 b)) g T h cap i b :=
  ⟨p.env, p.base.setCell (p := ⟨g, 2, none⟩) p.gz _, p.gz, p.good, p.lt, p.le, p.big, hb, by rw [heap_setCell_same w g 2 _ _ _ p.obj]; rfl, p.hg, p.row.away (g := g) ((Away.refl g w).set 2 _) (by have := p.hg; omega)⟩
theorem XG.put (p : XG w0 w g T h cap i bad) {b : Nat} (hb : g < b) (k : Nat) (u : Value) : XG w0 (w.setCell ⟨b, k, none⟩ u) g T h cap i bad :=
  ⟨p.env, p.base.setCell (p := ⟨b, k, none⟩) (by have := p.gz; dsimp only; omega) _, p.gz, p.good, p.lt, p.le, p.big, p.bad1, by rw [Below.heap_setCell _ _ _ _ (by dsimp only; omega)]; exact p.obj, p.hg, p.row.away (g := b) ((Away.refl b w).set k _) (by have := p.hg; omega)⟩
theorem XG.tok (p : XG w0 w g T h cap i bad) : ∃ t, T[i]? = some t ∧ T.drop i = t :: T.drop (i + 1) ∧ w.cell? ⟨h, i * 4, none⟩ = some (.int .i64 (t.k : Int)) ∧ w.cell? ⟨h, i * 4 + 1, none⟩ = some (.string ⟨t.s.toArray⟩) ∧ w.cell? ⟨h, i * 4 + 2, none⟩ = some (.int .i64 (t.n : Int)) ∧ w.cell? ⟨h, i * 4 + 3, none⟩ = some (.int .i64 (t.a : Int)) := by
  obtain ⟨t, ht⟩ : ∃ t, T[i]? = some t := ⟨_, List.getElem?_eq_getElem p.lt⟩
  have hd : T.drop i = t :: T.drop (i + 1) := by
    obtain ⟨h1, h2⟩ := List.getElem?_eq_some_iff.1 ht
    rw [← h2]; exact List.drop_eq_getElem_cons h1
  exact ⟨t, ht, hd, p.row.2 i t ht⟩
theorem XG.next (p : XG w0 w g T h cap i bad) {t : Tk} (ht : T[i]? = some t) (hk : t.k ≠ 0) : i + 1 < T.length := p.good.last i t ht hk
end
set_option maxHeartbeats 1000000 in
set_option maxRecDepth 100000 in
theorem xtok_any (w0 w : World) (g : Nat) (T : List Tk) (h cap i : Nat) (bad : Int) (t : Tk) (p : XG w0 w g T h cap i bad) (ht : T[i]? = some t) :
    Calls Tryz.prog 37 #[.pointer (some ⟨g, 0, none⟩)] w fun e w' => e = .returned (T4 t.k ⟨t.s.toArray⟩ t.n t.a) ∧ Below w.heap.size w w' := by
  obtain ⟨c0, c1, -⟩ := p.cells
  obtain ⟨x0, x1, x2, x3⟩ := p.row.2 i t ht
  have hl := p.lt
  have hle := p.le
  have hbig := p.big
  have hgl := p.glt
  have hhl := p.row.1
  have hiz : (i : Int) < (T.length : Int) := by omega
  have hF := four_new w (.int .i64 0) (.string ⟨#[]⟩) (.int .i64 0) (.int .i64 0) 61
  have hb := below_alloc w (.cells #[.int .i64 0, .string ⟨#[]⟩, .int .i64 0, .int .i64 0] 61)
  generalize hS : (⟨t.s.toArray⟩ : ByteArray) = S at *
  generalize T.length = n at *
  clear p ht
  go_enter Tryz.func37, Tryz.ntmps37
  go_wp2_with fail
  go_region
  go_wp2
  exact bodyPost_ret (v := T4 t.k S t.n t.a) (by simp [T4, results, Tryz.results37, go_sem]) rfl ⟨rfl, (below_alloc w _).drew⟩
/-- How sign ends. -/
def SgE (w0 w : World) (g : Nat) (T : List Tk) (h cap i : Nat) (s : List UInt8) (e : Ending) (w' : World) : Prop :=
  e = .returned (.bool (isS (T.drop i) s)) ∧ Away g w w' ∧ XG w0 w' g T h cap (if isS (T.drop i) s = true then i + 1 else i) (-1)
set_option maxHeartbeats 2000000 in
set_option maxRecDepth 100000 in
theorem xsign_any (w0 w : World) (g : Nat) (T : List Tk) (h cap i : Nat) (s : List UInt8) (hs : s ≠ []) (p : XG w0 w g T h cap i (-1)) :
    Calls Tryz.prog 71 #[.pointer (some ⟨g, 0, none⟩), .string ⟨s.toArray⟩] w (SgE w0 w g T h cap i s) := by
  obtain ⟨t, ht, hd, -⟩ := p.tok
  have c1 := xtok_any w0 w g T h cap i (-1) t p ht
  have c2 := fun w' (hb : Below w.heap.size w w') => xtok_any w0 w' g T h cap i (-1) t (p.later hb) ht
  obtain ⟨y0, y1, y2, f1, f2⟩ := p.cells
  have HP := Lib.hid p
  have hI : isS (T.drop i) s = decide (sgT t = s) := by rw [hd]; exact isS_sg hs
  have HI := Lib.hid hI
  have HT := Lib.hid ht
  by_cases hk : t.k = 4
  · have hkI : ((t.k : Nat) : Int) = 4 := by rw [hk]; rfl
    have hsg : sgT t = t.s := by unfold sgT; rw [if_pos hk]
    have HN := Lib.hid (p.next ht (by omega))
    have hbig := p.big
    have hlt := p.lt
    by_cases hts : t.s = s
    · have HE : Hid (isS (T.drop i) s = true) := Lib.hid (by rw [hI, hsg, hts]; simp)
      have hqe : ((⟨t.s.toArray⟩ : ByteArray).toList == (⟨s.toArray⟩ : ByteArray).toList) = true := by rw [hts]; simp
      have hqq : ((⟨t.s.toArray⟩ : ByteArray).toList != (⟨s.toArray⟩ : ByteArray).toList) = false := by rw [hts]; simp
      generalize (⟨t.s.toArray⟩ : ByteArray) = S1 at *
      generalize (⟨s.toArray⟩ : ByteArray) = S2 at *
      rw [hkI] at c1 c2
      have hfd0 := fun w => fld_0 4 S1 (t.n : Int) (t.a : Int) w
      have hfd1 := fun w => fld_1 4 S1 (t.n : Int) (t.a : Int) w
      clear p ht hd hI hk hsg hts hs
      go_enter Tryz.func71, Tryz.ntmps71
      go_wp2_with fail
      refine c1.mono ?_
      rintro e w1 ⟨rfl, b1⟩
      have c3 := c2 w1 b1
      have B1 := Lib.hid b1
      clear c1 c2 b1
      go_wp2_with fail
      refine c3.mono ?_
      rintro e w2 ⟨rfl, b2⟩
      have B2 := Lib.hid (below_to B1.out b2)
      have P2 := Lib.hid (HP.out.later B2.out)
      obtain ⟨z0, z1, z2, g1, g2⟩ := P2.out.cells
      have hw1 : IntKind.i64.wrap ((i : Int) + 1) = (i : Int) + 1 := IntWalk.i64_in _ (by omega)
      clear c3 b2 y0 y1 y2 f1 f2
      go_wp2_with fail
      exact bodyPost_ret (v := .bool true) (by simp [results, Tryz.results71, go_sem]) rfl ⟨by rw [HE.out], (Away.of B2.out).set 1 _, by rw [if_pos HE.out]; exact P2.out.goes HN.out (by push_cast; rfl)⟩
    · have HE : Hid (isS (T.drop i) s = false) := Lib.hid (by rw [hI, hsg]; simp [hts])
      have hne : (⟨t.s.toArray⟩ : ByteArray) ≠ ⟨s.toArray⟩ := fun e => hts (by injection e with e; exact List.toArray_inj e)
      have hqe := txt_ne hne
      have hqq : ((⟨t.s.toArray⟩ : ByteArray).toList != (⟨s.toArray⟩ : ByteArray).toList) = true := by rw [bne, hqe]; rfl
      generalize (⟨t.s.toArray⟩ : ByteArray) = S1 at *
      generalize (⟨s.toArray⟩ : ByteArray) = S2 at *
      rw [hkI] at c1 c2
      have hfd0 := fun w => fld_0 4 S1 (t.n : Int) (t.a : Int) w
      have hfd1 := fun w => fld_1 4 S1 (t.n : Int) (t.a : Int) w
      clear p ht hd hI hk hsg hts hs hne
      go_enter Tryz.func71, Tryz.ntmps71
      go_wp2_with fail
      refine c1.mono ?_
      rintro e w1 ⟨rfl, b1⟩
      have c3 := c2 w1 b1
      have B1 := Lib.hid b1
      clear c1 c2 b1
      go_wp2_with fail
      refine c3.mono ?_
      rintro e w2 ⟨rfl, b2⟩
      have B2 := Lib.hid (below_to B1.out b2)
      clear c3 b2
      go_wp2_with fail
      exact bodyPost_ret (v := .bool false) (by simp [results, Tryz.results71, go_sem]) rfl ⟨by rw [HE.out], Away.of B2.out, by rw [if_neg (by rw [HE.out]; decide)]; exact HP.out.later B2.out⟩
  · have hkb : ((t.k : Int) != 4) = true := by simp; omega
    have hkn : ¬ (t.k : Int) = 4 := by omega
    have HE : Hid (isS (T.drop i) s = false) := Lib.hid (by rw [hI]; unfold sgT; rw [if_neg hk]; simp [Ne.symm hs])
    generalize (⟨t.s.toArray⟩ : ByteArray) = S1 at *
    generalize (⟨s.toArray⟩ : ByteArray) = S2 at *
    have hfd0 := fun w => fld_0 (t.k : Int) S1 (t.n : Int) (t.a : Int) w
    clear p ht hd hI hk c2 hs
    go_enter Tryz.func71, Tryz.ntmps71
    go_wp2_with fail
    refine c1.mono ?_
    rintro e w1 ⟨rfl, b1⟩
    have B1 := Lib.hid b1
    clear c1 b1
    go_wp2_with fail
    exact bodyPost_ret (v := .bool false) (by simp [results, Tryz.results71, go_sem]) rfl ⟨by rw [HE.out], Away.of B1.out, by rw [if_neg (by rw [HE.out]; decide)]; exact HP.out.later B1.out⟩
set_option maxHeartbeats 1000000 in
set_option maxRecDepth 100000 in
theorem xsign_bad (w0 w : World) (g : Nat) (T : List Tk) (h cap i : Nat) (q : Nat) (s : ByteArray) (p : XG w0 w g T h cap i (q : Int)) :
    Calls Tryz.prog 71 #[.pointer (some ⟨g, 0, none⟩), .string s] w fun e w' => e = .returned (.bool false) ∧ w = w' := by
  obtain ⟨y0, y1, y2, -⟩ := p.cells
  have hq : (0 : Int) ≤ (q : Int) := by omega
  clear p
  go_enter Tryz.func71, Tryz.ntmps71
  go_wp2_with fail
  go_ret
  exact ⟨rfl, rfl⟩
/-- How wrong ends. -/
def WrE (w0 w : World) (g : Nat) (T : List Tk) (h cap i : Nat) (a : Nat) (e : Ending) (w' : World) : Prop :=
  e = .returned (EV 0 0 ⟨#[]⟩ (.slice none 0 0)) ∧ Away g w w' ∧ XG w0 w' g T h cap i (a : Int)
set_option maxHeartbeats 1000000 in
set_option maxRecDepth 100000 in
theorem xwrong_any (w0 w : World) (g : Nat) (T : List Tk) (h cap i : Nat) (t : Tk) (p : XG w0 w g T h cap i (-1)) (ht : T[i]? = some t) :
    Calls Tryz.prog 38 #[.pointer (some ⟨g, 0, none⟩)] w (WrE w0 w g T h cap i t.a) := by
  have hb0 := below_alloc w (.cells #[.int .i64 0, .int .i64 0, .string ⟨#[]⟩, .slice none 0 0] 25)
  have hF0 := four_new w (.int .i64 0) (.int .i64 0) (.string ⟨#[]⟩) (.slice none 0 0) 25
  have hn0 := NB.new w #[.int .i64 0, .int .i64 0, .string ⟨#[]⟩, .slice none 0 0] 25
  have hz0 := alloc_size w (.cells #[.int .i64 0, .int .i64 0, .string ⟨#[]⟩, .slice none 0 0] 25)
  obtain ⟨wA, hwA⟩ : ∃ wA, w.alloc (.cells #[.int .i64 0, .int .i64 0, .string ⟨#[]⟩, .slice none 0 0] 25) = wA := ⟨_, rfl⟩
  rw [hwA] at hb0 hF0 hn0 hz0
  have pA := p.later hb0
  have c1 := xtok_any w0 wA g T h cap i (-1) t pA ht
  obtain ⟨y0, y1, y2, f1, f2⟩ := pA.cells
  have HA := Lib.hid (p.good.at_ t (List.mem_of_getElem? ht))
  have hgl := p.glt
  have HP := Lib.hid pA
  have HF := Lib.hid hF0
  have HN := Lib.hid hn0
  have HB := Lib.hid hb0
  have HG := Lib.hid hgl
  generalize (⟨t.s.toArray⟩ : ByteArray) = S1 at *
  have hfd3 := fun w => fld_3 (t.k : Int) S1 (t.n : Int) (t.a : Int) w
  clear p ht pA hF0 hn0 hb0
  go_enter Tryz.func38, Tryz.ntmps38
  go_wp2_with fail
  refine c1.mono ?_
  rintro e w1 ⟨rfl, b1⟩
  obtain ⟨z0, z1, z2, g1, g2⟩ := (HP.out.later b1).cells
  have P1 := Lib.hid (HP.out.later b1)
  have HF1 := Lib.hid (HF.out.later b1)
  have HN1 := Lib.hid (HN.out.same (b1.block _ (by omega)))
  have B1 := Lib.hid (below_to HB.out b1)
  have hne : g ≠ w.heap.size := by omega
  obtain ⟨-, x0, x1, x2, x3, -⟩ := HF1.out
  have n0 := (HN1.out.weak 0).2
  have n1 := (HN1.out.weak 1).2
  have n2 := (HN1.out.weak 2).2
  have n3 := (HN1.out.weak 3).2
  clear c1 b1 y0 y1 y2 f1 f2 hwA
  go_wp2_with fail
  refine bodyPost_ret (v := EV 0 0 ⟨#[]⟩ (.slice none 0 0)) (by simp [EV, results, Tryz.results38, go_sem, x0, x1, x2, x3]) rfl ⟨rfl, ?_, ?_⟩
  · exact ((Away.of B1.out).set 2 _).put4 (Nat.le_refl _) _ _ _ _
  · exact (((((P1.out.spoilt (b := (t.a : Int)) (by have := HA.out; omega)).put HG.out 0 _).put HG.out 1 _).put HG.out 2 _).put HG.out 3 _)
/-- How must ends: the sign is passed, or it is wrong. -/
def MuE (w0 w : World) (g : Nat) (T : List Tk) (h cap i : Nat) (s : List UInt8) (t : Tk) (e : Ending) (w' : World) : Prop :=
  e = .returned (.tuple #[]) ∧ Away g w w' ∧ XG w0 w' g T h cap (if isS (T.drop i) s = true then i + 1 else i) (if isS (T.drop i) s = true then (-1) else (t.a : Int))
set_option maxHeartbeats 2000000 in
set_option maxRecDepth 100000 in
theorem xmust_any (w0 w : World) (g : Nat) (T : List Tk) (h cap i : Nat) (s : List UInt8) (hs : s ≠ []) (t : Tk) (p : XG w0 w g T h cap i (-1)) (ht : T[i]? = some t) :
    Calls Tryz.prog 263 #[.pointer (some ⟨g, 0, none⟩), .string ⟨s.toArray⟩] w (MuE w0 w g T h cap i s t) := by
  have c1 := xsign_any w0 w g T h cap i s hs p
  obtain ⟨y0, y1, y2, f1, f2⟩ := p.cells
  have cW := fun w' (q : XG w0 w' g T h cap i (-1)) => xwrong_any w0 w' g T h cap i t q ht
  cases hI : isS (T.drop i) s with
  | true =>
    have HI := Lib.hid hI
    unfold SgE at c1
    rw [hI] at c1
    generalize (⟨s.toArray⟩ : ByteArray) = S at *
    clear p ht hI cW hs
    go_enter Tryz.func263, Tryz.ntmps263
    go_wp2_with fail
    refine c1.mono ?_
    rintro e w1 ⟨rfl, a1, q1⟩
    have Q1 := Lib.hid q1
    have A1 := Lib.hid a1
    clear c1 q1 a1
    go_wp2_with fail
    go_end0
    exact ⟨rfl, A1.out, by rw [if_pos HI.out, if_pos HI.out]; simpa using Q1.out⟩
  | false =>
    have HI := Lib.hid hI
    unfold SgE at c1
    rw [hI] at c1
    generalize (⟨s.toArray⟩ : ByteArray) = S at *
    have HC := Lib.hid cW
    clear p ht hI cW hs
    go_enter Tryz.func263, Tryz.ntmps263
    go_wp2_with fail
    refine c1.mono ?_
    rintro e w1 ⟨rfl, a1, q1⟩
    have cW := HC.out w1 (by simpa using q1)
    have A1 := Lib.hid a1
    clear c1 q1 a1
    go_wp2_with fail
    refine cW.mono ?_
    rintro e w2 ⟨rfl, a2, q2⟩
    have Q2 := Lib.hid q2
    have A2 := Lib.hid a2
    clear cW q2 a2
    go_wp2_with fail
    go_end0
    exact ⟨rfl, A1.out.trans A2.out, by rw [if_neg (by rw [HI.out]; decide), if_neg (by rw [HI.out]; decide)]; exact Q2.out⟩
set_option maxHeartbeats 1000000 in
set_option maxRecDepth 100000 in
theorem xmust_bad (w0 w : World) (g : Nat) (T : List Tk) (h cap i : Nat) (q : Nat) (s : ByteArray) (p : XG w0 w g T h cap i (q : Int)) :
    Calls Tryz.prog 263 #[.pointer (some ⟨g, 0, none⟩), .string s] w fun e w' => e = .returned (.tuple #[]) ∧ w' = w := by
  obtain ⟨y0, y1, y2, -⟩ := p.cells
  have hq : (0 : Int) ≤ (q : Int) := by omega
  clear p
  go_enter Tryz.func263, Tryz.ntmps263
  go_wp2_with fail
  go_end0
  exact ⟨rfl, rfl⟩
end Go.Proofs.YtjmfpgalepahoaaGreatDoor
