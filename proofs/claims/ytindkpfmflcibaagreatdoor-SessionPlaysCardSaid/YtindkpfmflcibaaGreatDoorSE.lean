/- Several texts in one: SsE, SsGa, SsRa, SsDa. -/
import Derived.Test.YtindkpfmflcibaaGreatDoorMSsR
import Derived.Test.YtindkpfmflcibaaGreatDoorMCmS
import Derived.Test.YtindkpfmflcibaaGreatDoorMSsG
import Derived.Test.YtindkpfmflcibaaGreatDoorGE
import Derived.Deep.CutRange
import Derived.Deep.RegionWith
namespace Go.Proofs.YtindkpfmflcibaaGreatDoor
/- Plain mathematics: what any bytes say, read as a table of sessions. -/
section
open Go.RowKit

/-- What is read of a session behind its id: when it was used, its number, its reply; whether that may be; what is left. -/
def gS (s : St) : ((Int × Int × Rp) × Bool) × St :=
  ((((stI s).1, (stI (stI s).2).1, (getP (stT ((stI (stI s).2).2.1.length : Int) (stI (stI s).2).2).1).1),
    (getP (stT ((stI (stI s).2).2.1.length : Int) (stI (stI s).2).2).1).2 && (wi 0 (stI (stI s).2).1 && (decide (0 < (stI (stI s).2).1) || sameR (getP (stT ((stI (stI s).2).2.1.length : Int) (stI (stI s).2).2).1).1.e (getP (stT ((stI (stI s).2).2.1.length : Int) (stI (stI s).2).2).1).1.n (getP (stT ((stI (stI s).2).2.1.length : Int) (stI (stI s).2).2).1).1.K (getP (stT ((stI (stI s).2).2.1.length : Int) (stI (stI s).2).2).1).1.m (getP (stT ((stI (stI s).2).2.1.length : Int) (stI (stI s).2).2).1).1.s 0 0 0 0 ⟨#[]⟩))),
    (stT ((stI (stI s).2).2.1.length : Int) (stI (stI s).2).2).2)
theorem gS_of {s s1 s2 s3 : St} {u q : Int} {P : List UInt8} {r : Rp} {y : Bool} (h1 : stI s = (u, s1)) (h2 : stI s1 = (q, s2)) (h3 : stT (s2.1.length : Int) s2 = (P, s3)) (h4 : getP P = (r, y)) :
    gS s = (((u, q, r), y && (wi 0 q && (decide (0 < q) || sameR r.e r.n r.K r.m r.s 0 0 0 0 ⟨#[]⟩))), s3) := by
  unfold gS
  rw [h1]; dsimp only
  rw [h2]; dsimp only
  rw [h3]; dsimp only
  rw [h4]
/-- A session, behind those whose last id is b. -/
def oneT (b : Int) (s : St) : Option (Se × St) :=
  if (gS (stI s).2).1.2 && (wi (b + 1) (stI s).1 && wi (stI s).1 (gS (stI s).2).1.1.1) then some (⟨(stI s).1, (gS (stI s).2).1.1.1, (gS (stI s).2).1.1.2.1, (gS (stI s).2).1.1.2.2⟩, (gS (stI s).2).2) else none
theorem oneT_yes {b i u q : Int} {r : Rp} {s s1 s2 : St} (h1 : stI s = (i, s1)) (h2 : gS s1 = (((u, q, r), true), s2)) (h3 : wi (b + 1) i = true) (h4 : wi i u = true) : oneT b s = some (⟨i, u, q, r⟩, s2) := by
  unfold oneT
  rw [h1]; dsimp only
  rw [h2]; dsimp only
  rw [h3, h4]; rfl
theorem oneT_no {b i u q : Int} {r : Rp} {y : Bool} {s s1 s2 : St} (h1 : stI s = (i, s1)) (h2 : gS s1 = (((u, q, r), y), s2)) (h3 : (y && (wi (b + 1) i && wi i u)) = false) : oneT b s = none := by
  unfold oneT
  rw [h1]; dsimp only
  rw [h2]; dsimp only
  rw [h3]; rfl
def lastId (L : List Se) : Int := (L.getLast?.map Se.id).getD 0
theorem lastId_nil : lastId [] = 0 := rfl
theorem lastId_snoc (L : List Se) (x : Se) : lastId (L ++ [x]) = x.id := by simp [lastId]
def nextT (o : Option (Se × St)) (f : Se × St → Option (List Se × St)) : Option (List Se × St) := match o with
  | none => none
  | some p => f p
def loopT (k : Nat) : List Se → St → Option (List Se × St) :=
  Nat.rec (motive := fun _ => List Se → St → Option (List Se × St)) (fun L s => some (L, s)) (fun _ f L s => nextT (oneT (lastId L) s) fun p => f (L ++ [p.1]) p.2) k
theorem loopT_zero (L : List Se) (s : St) : loopT 0 L s = some (L, s) := rfl
theorem loopT_succ (k : Nat) (L : List Se) (s : St) : loopT (k + 1) L s = nextT (oneT (lastId L) s) fun p => loopT k (L ++ [p.1]) p.2 := rfl
theorem loopT_some {k : Nat} {L : List Se} {s s' : St} {x : Se} (h : oneT (lastId L) s = some (x, s')) : loopT (k + 1) L s = loopT k (L ++ [x]) s' := by
  rw [loopT_succ, h]; rfl
theorem loopT_none {k : Nat} {L : List Se} {s : St} (h : oneT (lastId L) s = none) : loopT (k + 1) L s = none := by
  rw [loopT_succ, h]; rfl
/-- What bytes say: a table, and what is left; or none. -/
def loadT (most : Nat) (s : St) : Option (List Se × St) := match loopT (stC (most : Int) s).1.toNat [] (stC (most : Int) s).2 with
  | none => none
  | some (L, s') => if s'.2 then none else some (L, s')
/-- A reader that failed has nothing left. -/
def Dead (s : St) : Prop := s.2 = true → s.1 = []
theorem dead_stI {s : St} (h : Dead s) : Dead (stI s).2 := by
  intro hf
  cases e : rdU 0 0 s.1 with
  | none => rw [stI_none e]
  | some p =>
    obtain ⟨u, R⟩ := p
    rw [stI_some e] at hf
    have h1 : s.1 = [] := h hf
    rw [h1] at e
    cases e
theorem dead_stC {m : Int} {s : St} (h : Dead s) : Dead (stC m s).2 := by
  unfold stC
  split
  · exact dead_stI h
  · intro _; rfl
theorem dead_stT {m : Int} {s : St} (h : Dead s) : Dead (stT m s).2 := by
  intro hf
  have h1 := dead_stC (m := m) h hf
  unfold stT
  dsimp only
  rw [h1]; simp
theorem stT_bad {m : Int} {s : St} (h : Dead s) (hf : (stT m s).2.2 = true) : (stT m s).1 = [] := by
  have h1 := dead_stC (m := m) h hf
  unfold stT
  dsimp only
  rw [h1]; simp
theorem stT_left {m : Int} {s : St} : (stT m s).1.length ≤ s.1.length ∧ (stT m s).2.1.length ≤ s.1.length := by
  have h : (stC m s).2.1.length ≤ s.1.length := by
    unfold stC
    split
    · exact stI_left s
    · simp
  unfold stT
  dsimp only
  rw [List.length_take, List.length_drop]
  omega
theorem stT_long {m : Int} {s : St} (h : (s.1.length : Int) ≤ m) : stT m s = stT (s.1.length : Int) s := by
  have h1 := stI_left s
  have : stC m s = stC (s.1.length : Int) s := by
    unfold stC okC
    have e : decide (0 ≤ (stI s).1 ∧ (stI s).1 ≤ m ∧ (stI s).1 ≤ ((stI s).2.1.length : Int)) = decide (0 ≤ (stI s).1 ∧ (stI s).1 ≤ (s.1.length : Int) ∧ (stI s).1 ≤ ((stI s).2.1.length : Int)) := by
      rw [decide_eq_decide]
      constructor <;> intro h2 <;> omega
    rw [e]
  unfold stT
  rw [this]
theorem getP_nil : (getP []).2 = false := by decide +kernel
structure GoodS (s : St) : Prop where
  ok : (gS s).2.2 = false
  seq : wi 0 (gS s).1.1.2.1 = true
  rep : repB (gS s).1.1.2.2 = true
  zer : (gS s).1.1.2.1 = 0 → (gS s).1.1.2.2 = Rp.zero
theorem gS_good {s : St} (h : Dead s) (hy : (gS s).1.2 = true) : GoodS s := by
  obtain ⟨u, s1, h1⟩ : ∃ u s1, stI s = (u, s1) := ⟨_, _, rfl⟩
  obtain ⟨q, s2, h2⟩ : ∃ q s2, stI s1 = (q, s2) := ⟨_, _, rfl⟩
  obtain ⟨P, s3, h3⟩ : ∃ P s3, stT (s2.1.length : Int) s2 = (P, s3) := ⟨_, _, rfl⟩
  obtain ⟨r, y, h4⟩ : ∃ r y, getP P = (r, y) := ⟨_, _, rfl⟩
  have hg := gS_of h1 h2 h3 h4
  have d1 := dead_stI h
  rw [h1] at d1
  have d2 := dead_stI d1
  rw [h2] at d2
  rw [hg] at hy
  dsimp only at hy
  simp only [Bool.and_eq_true, Bool.or_eq_true, decide_eq_true_eq] at hy
  obtain ⟨y1, y2, y3⟩ := hy
  subst y1
  have hrp := (getP_read (L := P) (by rw [h4])).2
  rw [h4] at hrp
  refine ⟨?_, ?_, ?_, ?_⟩ <;> rw [hg] <;> dsimp only
  · cases hf : s3.2 with
    | false => rfl
    | true =>
      have h5 := stT_bad (m := (s2.1.length : Int)) d2 (by rw [h3]; exact hf)
      rw [h3] at h5
      dsimp only at h5
      rw [h5] at h4
      have h6 := getP_nil
      rw [h4] at h6
      cases h6
  · exact y2
  · exact hrp
  · intro hz
    have h3 := y3.resolve_left (by omega)
    rw [sameR_iff] at h3
    obtain ⟨a, b, c, d, e⟩ := h3
    obtain ⟨re, rn, rK, rm, rs⟩ := r
    dsimp only at a b c d e
    subst a b c d e
    rfl
theorem dead_gS {s : St} (h : Dead s) : Dead (gS s).2 := dead_stT (dead_stI (dead_stI h))
theorem last_ge {L : List Se} (h : L.Pairwise fun a b => a.id < b.id) {t : Se} (ht : t ∈ L) : t.id ≤ lastId L := by
  rcases List.eq_nil_or_concat L with rfl | ⟨M, x, rfl⟩
  · cases ht
  · rw [List.concat_eq_append] at h ht ⊢
    rw [lastId_snoc]
    rcases List.mem_append.1 ht with h1 | h1
    · have := (List.pairwise_append.1 h).2.2 t h1 x (by simp)
      omega
    · simp at h1; rw [h1]; omega
theorem last_in {most : Nat} {L : List Se} (h : Tb most L) : 0 ≤ lastId L ∧ lastId L ≤ 1099511627776 := by
  rcases List.eq_nil_or_concat L with rfl | ⟨M, x, rfl⟩
  · exact ⟨by decide, by decide⟩
  · rw [List.concat_eq_append] at h ⊢
    rw [lastId_snoc]
    have := h.id x (by simp)
    omega
theorem gS_in (s : St) : (gS s).1.1.2.2.In := by unfold gS; exact getP_in _
structure StepT (most : Nat) (L : List Se) (x : Se) (s' : St) : Prop where
  tb : Tb most (L ++ [x])
  ins : insS x L = L ++ [x]
  lt : ∀ t ∈ L, t.id < x.id
  ok : s'.2 = false
  pos : 1 ≤ x.id
theorem oneT_tb {most : Nat} {L : List Se} {s s' : St} {x : Se} (ht : Tb most L) (hl : L.length < most) (hd : Dead s) (h : oneT (lastId L) s = some (x, s')) : StepT most L x s' := by
  unfold oneT at h
  split at h
  · rename_i hc
    simp only [Bool.and_eq_true] at hc
    obtain ⟨hy, h1, h2⟩ := hc
    have hg := gS_good (dead_stI hd) hy
    have hin := gS_in (stI s).2
    obtain ⟨g0, g1, g2, g3⟩ := hg
    generalize gS (stI s).2 = G at *
    obtain ⟨⟨⟨u, q, r⟩, y⟩, s4⟩ := G
    dsimp only at h h2 hy g0 g1 g2 g3 hin
    generalize (stI s).1 = i at *
    have h' := Option.some.inj h
    have hx : (⟨i, u, q, r⟩ : Se) = x := congrArg Prod.fst h'
    have hs : s4 = s' := congrArg Prod.snd h'
    clear h h'
    subst hx hs
    obtain ⟨i0, i1⟩ := wi_iff.1 h1
    obtain ⟨u0, u1⟩ := wi_iff.1 h2
    obtain ⟨q0, q1⟩ := wi_iff.1 g1
    have hlt : ∀ t ∈ L, t.id < i := fun t h => by
      have := last_ge ht.up h
      omega
    have hl0 := last_in ht
    refine ⟨⟨ht.lo, ht.hi, by rw [List.length_append]; show _ + 1 ≤ _; omega, ?_, ?_, ?_, ?_, ?_, ?_, ?_⟩, insS_last hlt, hlt, g0, by show 1 ≤ i; omega⟩
    · rw [List.pairwise_append]
      exact ⟨ht.up, by simp, fun a ha b hb => by simp at hb; rw [hb]; exact hlt a ha⟩
    all_goals
      intro t hm
      rcases List.mem_append.1 hm with hm | hm
    · exact ht.id t hm
    · rw [List.mem_singleton.1 hm]; exact ⟨by show 1 ≤ i; omega, i1⟩
    · exact ht.used t hm
    · rw [List.mem_singleton.1 hm]; exact ⟨u0, u1⟩
    · exact ht.seq t hm
    · rw [List.mem_singleton.1 hm]; exact ⟨q0, q1⟩
    · exact ht.rin t hm
    · rw [List.mem_singleton.1 hm]; exact hin
    · exact ht.rep t hm
    · rw [List.mem_singleton.1 hm]; exact g2
    · exact ht.zer t hm
    · rw [List.mem_singleton.1 hm]; exact g3
  · cases h
theorem oneT_dead {b : Int} {s s' : St} {x : Se} (hd : Dead s) (h : oneT b s = some (x, s')) : Dead s' := by
  unfold oneT at h
  split at h
  · injection h with h
    injection h with hx hs
    rw [← hs]
    exact dead_gS (dead_stI hd)
  · cases h
theorem loadT_bad {most : Nat} {s : St} (h : (stC (most : Int) s).2.2 = true) (h0 : (stC (most : Int) s).1 = 0) : loadT most s = none := by
  unfold loadT
  rw [h0]
  show (if (stC (most : Int) s).2.2 then none else _) = _
  rw [h]; rfl
theorem stC_zero {m : Int} {s : St} (hd : Dead s) (h : (stC m s).2.2 = true) : (stC m s).1 = 0 := by
  have h1 := dead_stC (m := m) hd h
  have h2 := stC_lo m s
  rw [h1] at h2
  simp at h2
  omega
end
/- A session is read of any bytes. -/
section
open Go.RowKit Go.Maps Go.Sort Go.Shelf
set_option linter.unusedSimpArgs false

set_option maxHeartbeats 2000000 in
set_option maxRecDepth 100000 in
theorem stget_at (N g : Nat) (s s1 S2 s3 : St) (u q : Int) (P : List UInt8) (r : Rp) (yb F : Bool) (w : World) (h : Rd N w g s) (wB : World) (hT : Tabs wB) (hTB : Below wB.heap.size wB w) (hg : wB.heap.size ≤ g)
    (e1 : stI s = (u, s1)) (e2 : stI s1 = (q, S2)) (e3 : stT (S2.1.length : Int) S2 = (P, s3)) (eP : getP P = (r, yb)) (eF : (yb && (wi 0 q && (decide (0 < q) || sameR r.e r.n r.K r.m r.s 0 0 0 0 ⟨#[]⟩))) = F) :
    Calls Tryz.prog 64 #[.pointer (some ⟨g, 0, none⟩)] w fun e w' => e = .returned (.tuple #[V7 u q r, .bool F]) ∧ Rd N w' g s3 ∧ Onl g w w' := by
  have hpl : P.length ≤ 140737488355328 := by
    have h1 := stI_left s
    have h2 := stI_left s1
    have h3 := (stT_left (m := (S2.1.length : Int)) (s := S2)).1
    have h4 := h.len
    rw [e1] at h1
    rw [e2] at h2
    rw [e3] at h3
    dsimp only at h1 h2 h3
    omega
  have hgl := h.lt
  have b0 := Ss.below_alloc w (.cells (cs7 0 0 ⟨0, 0, 0, 0, ⟨#[]⟩⟩) 68)
  have R0 := Blk.new w (cs7 0 0 ⟨0, 0, 0, 0, ⟨#[]⟩⟩) 68
  have h0 := h.below b0 (Nat.le_refl _)
  have z0 : (w.alloc (.cells (cs7 0 0 ⟨0, 0, 0, 0, ⟨#[]⟩⟩) 68)).heap.size = w.heap.size + 1 := by simp
  have o0 := (Onl.refl g w).later b0
  obtain ⟨w0, hw0⟩ : ∃ w0, w.alloc (.cells (cs7 0 0 ⟨0, 0, 0, 0, ⟨#[]⟩⟩) 68) = w0 := ⟨_, rfl⟩
  rw [hw0] at b0 R0 h0 z0 o0
  have c1 := int_any N g _ w0 h0
  rw [e1] at c1
  dsimp only at c1
  have hgr : g ≠ w.heap.size := by omega
  have HR0 := Lib.hid R0
  have HO0 := Lib.hid o0
  have HT := fun (w' : World) (ho : Onl g w w') => hT.later (hTB.trans (ho.below hg hTB.size))
  clear h h0 b0 R0 o0 hT hTB hg e1
  go_enter Tryz.func64, Tryz.ntmps64
  go_wp2_with fail
  refine c1.mono ?_
  rintro e w1 ⟨rfl, h1, o1⟩
  have z1 : w1.heap.size = w.heap.size + 1 := o1.size.trans z0
  have HR1 := Lib.hid (HR0.out.only o1 hgr.symm)
  have HO1 := Lib.hid (HO0.out.only o1)
  have b1 := Ss.below_alloc w1 (.cells (cs7 0 0 ⟨0, 0, 0, 0, ⟨#[]⟩⟩) 68)
  have C2 := Blk.new w1 (cs7 0 0 ⟨0, 0, 0, 0, ⟨#[]⟩⟩) 68
  have z2 : (w1.alloc (.cells (cs7 0 0 ⟨0, 0, 0, 0, ⟨#[]⟩⟩) 68)).heap.size = w.heap.size + 2 := by simp [z1]
  have h2 := h1.below b1 (Nat.le_refl _)
  obtain ⟨w2, hw2⟩ : ∃ w2, w1.alloc (.cells (cs7 0 0 ⟨0, 0, 0, 0, ⟨#[]⟩⟩) 68) = w2 := ⟨_, rfl⟩
  rw [hw2] at b1 C2 h2 z2
  rw [z1] at C2
  have hR2 := HR1.out.later b1
  have hO2 := HO1.out.later b1
  obtain ⟨-, y0, y1, y2, y3, y4, y5, y6, yf⟩ := sev_of_block (u := 0) (q := 0) (r := ⟨0, 0, 0, 0, ⟨#[]⟩⟩) C2
  have f0 := yf 0
  have f1 := yf 1
  have f2 := yf 2
  have f3 := yf 3
  have f4 := yf 4
  have f5 := yf 5
  have f6 := yf 6
  obtain ⟨w3, hw3⟩ : ∃ x, x = (((((((w2.setCell ⟨w.heap.size + 1, 0, none⟩ (.int .i64 u)).setCell ⟨w.heap.size + 1, 1, none⟩ (.int .i64 0)).setCell ⟨w.heap.size + 1, 2, none⟩ (.int .i64 0)).setCell ⟨w.heap.size + 1, 3, none⟩ (.int .i64 0)).setCell ⟨w.heap.size + 1, 4, none⟩ (.int .i64 0)).setCell ⟨w.heap.size + 1, 5, none⟩ (.int .i64 0)).setCell ⟨w.heap.size + 1, 6, none⟩ (.string ⟨#[]⟩)) := ⟨_, rfl⟩
  obtain ⟨C3, o3⟩ := blk_set7 C2 u 0 ⟨0, 0, 0, 0, ⟨#[]⟩⟩ w3 hw3
  have h3 := h2.blk C2 (noU8_7 _ _ _) o3 (by omega)
  have hR3 := hR2.only o3 (by omega)
  have hO3 := hO2.new o3 (by omega)
  have z3 := o3.size.trans z2
  have c2 := int_any N g _ w3 h3
  rw [e2] at c2
  dsimp only at c2
  have HC3 := Lib.hid C3
  have HR3 := Lib.hid hR3
  have HO3 := Lib.hid hO3
  clear c1 b1 C2 C3 h1 h2 h3 hw0 o1 HR0 HO0 HR1 HO1 z0 hR2 hO2 hR3 hO3 o3 yf
  go_wp2_with fail
  rw [← hw3]
  refine c2.mono ?_
  rintro e w4 ⟨rfl, h4, o4⟩
  have hC4 := HC3.out.only o4 (show w.heap.size + 1 ≠ g by omega)
  have hR4 := HR3.out.only o4 hgr.symm
  have hO4 := HO3.out.only o4
  have z4 := o4.size.trans z3
  have k1 := hC4.thaw 1
  obtain ⟨-, -, k2, -⟩ := sev_of_block (u := u) (q := 0) (r := ⟨0, 0, 0, 0, ⟨#[]⟩⟩) hC4
  obtain ⟨w5, hw5⟩ : ∃ x, x = w4.setCell ⟨w.heap.size + 1, 1, none⟩ (.int .i64 q) := ⟨_, rfl⟩
  have hC5 : Blk w5 (w.heap.size + 1) 68 (cs7 u q ⟨0, 0, 0, 0, ⟨#[]⟩⟩) := by rw [hw5]; exact hC4.set 1 _
  have o5 : Only (w.heap.size + 1) w4 w5 := by rw [hw5]; exact Only.one _ _ _ _
  have h5 := h4.blk hC4 (noU8_7 _ _ _) o5 (by omega)
  have hR5 := hR4.only o5 (by omega)
  have hO5 := hO4.new o5 (by omega)
  have z5 := o5.size.trans z4
  have c3 := left_any N g _ w5 h5
  try dsimp only at c3
  have c4 := wtext_any N g _ (S2.1.length : Int) w5 h5
  rw [e3] at c4
  try dsimp only at c4
  have HC5 := Lib.hid hC5
  have HR5 := Lib.hid hR5
  have HO5 := Lib.hid hO5
  clear c2 y0 y1 y2 y3 y4 y5 y6 f0 f1 f2 f3 f4 f5 f6 h4 o4 hC4 hR4 hO4 o5 h5 hR5 hO5 HC3 HR3 HO3 hw2 hw3 z1 z2 z3 z4 hC5
  go_wp2_with fail
  rw [← hw5]
  refine c3.mono ?_
  rintro e w6 ⟨rfl, rfl⟩
  clear c3 hw5
  go_wp2_with fail
  refine c4.mono ?_
  rintro e w6 ⟨rfl, h6, o6⟩
  have hC6 := HC5.out.only o6 (show w.heap.size + 1 ≠ g by omega)
  have hR6 := HR5.out.only o6 hgr.symm
  have hO6 := HO5.out.only o6
  have z6 := o6.size.trans z5
  obtain ⟨cap7, w7, cv, hB7, b7⟩ := bytes_list w6 P
  have h7 := h6.below b7 (Nat.le_refl _)
  have HC7 := Lib.hid (hC6.later b7)
  have HR7 := Lib.hid (hR6.later b7)
  have hO7 := hO6.later b7
  have HO7 := Lib.hid hO7
  have H7 := Lib.hid h7
  have c5 := pgetr_any (some ⟨w6.heap.size, 0, none⟩) P cap7 w7 (by omega) hB7 (fun h => nomatch h) (HT w7 hO7)
  rw [eP] at c5
  rw [z6] at cv c5
  have z7 : w.heap.size + 2 ≤ w7.heap.size := by have := b7.size; omega
  clear c4 k1 k2 h6 o6 hC6 hR6 hO6 hB7 b7 hO7 HC5 HR5 HO5 h7 HT eP z5
  go_wp2_with fail
  refine c5.mono ?_
  rintro e w8 ⟨rfl, b8⟩
  have z8 : w.heap.size + 2 ≤ w8.heap.size := Nat.le_trans z7 b8.size
  have hC8 := HC7.out.later b8
  have hR8 := HR7.out.later b8
  have hO8 := HO7.out.later b8
  have h8 := H7.out.below b8 (Nat.le_refl _)
  have b9 := Ss.below_alloc w8 (.cells (cs5 0 0 0 0 ⟨#[]⟩) 34)
  have P9 := Blk.new w8 (cs5 0 0 0 0 ⟨#[]⟩) 34
  obtain ⟨w9, hw9⟩ : ∃ x, w8.alloc (.cells (cs5 0 0 0 0 ⟨#[]⟩) 34) = x := ⟨_, rfl⟩
  rw [hw9] at b9 P9
  have hC9 := hC8.later b9
  have hR9 := hR8.later b9
  have hO9 := hO8.later b9
  have h9 := h8.below b9 (Nat.le_refl _)
  obtain ⟨G, hG⟩ : ∃ G, w8.heap.size = G := ⟨_, rfl⟩
  rw [hG] at P9 z8
  obtain ⟨w10, hw10⟩ : ∃ x, x = (((((w9.setCell ⟨G, 0, none⟩ (.int .i64 r.e)).setCell ⟨G, 1, none⟩ (.int .i64 r.n)).setCell ⟨G, 2, none⟩ (.int .i64 r.K)).setCell ⟨G, 3, none⟩ (.int .i64 r.m)).setCell ⟨G, 4, none⟩ (.string r.s)) := ⟨_, rfl⟩
  obtain ⟨P10, o10⟩ := blk_five P9 r w10 hw10
  have hC10 := hC9.only o10 (by omega)
  have hR10 := hR9.only o10 (by omega)
  have hO10 := hO9.new o10 (by omega)
  have h10 := h9.blk P9 (noU8_5 _ _ _ _ _) o10 (by omega)
  obtain ⟨w11, hw11⟩ : ∃ x, x = (((((w10.setCell ⟨w.heap.size + 1, 2, none⟩ (.int .i64 r.e)).setCell ⟨w.heap.size + 1, 3, none⟩ (.int .i64 r.n)).setCell ⟨w.heap.size + 1, 4, none⟩ (.int .i64 r.K)).setCell ⟨w.heap.size + 1, 5, none⟩ (.int .i64 r.m)).setCell ⟨w.heap.size + 1, 6, none⟩ (.string r.s)) := ⟨_, rfl⟩
  obtain ⟨C11, o11⟩ := blk_set5 hC10 r w11 hw11
  have hR11 := hR10.only o11 (by omega)
  have hO11 := hO10.new o11 (by omega)
  have h11 := h10.blk hC10 (noU8_7 _ _ _) o11 (by omega)
  have HC11 := Lib.hid C11
  have HR11 := Lib.hid hR11
  have HO11 := Lib.hid hO11
  have H11 := Lib.hid h11
  have HW := Lib.hid (And.intro hw10 hw11)
  have HP11 := Lib.hid (P10.only o11 (show G ≠ w.heap.size + 1 by omega))
  obtain ⟨x0, x1, x2, x3, x4, -, -, -⟩ := P9.t8
  obtain ⟨-, y0, y1, y2, y3, y4⟩ := P9.c5
  obtain ⟨-, k0, k1, k2, k3, k4, k5, k6, kf⟩ := sev_of_block (u := u) (q := q) (r := ⟨0, 0, 0, 0, ⟨#[]⟩⟩) hC9
  have f2 := kf 2
  have f3 := kf 3
  have f4 := kf 4
  have f5 := kf 5
  have f6 := kf 6
  have n1 : ¬ G = w.heap.size + 1 := by omega
  have n2 : ¬ w.heap.size + 1 = G := by omega
  clear hC8 hR8 hO8 h8 b8 b9 P9 hC9 hR9 hO9 h9 hw10 hw11 P10 o10 hC10 hR10 hO10 h10 C11 o11 hR11 hO11 h11 kf cv c5 HC7 HR7 HO7 H7 z7 e2 e3
  obtain ⟨ex, nx, kx, mx, sx⟩ := r
  dsimp only at *
  have cw := fun W => stwithin_any 0 q W
  have heq := fun W => eql_rep ex nx kx mx sx 0 0 0 0 ⟨#[]⟩ W
  obtain ⟨wq, hwq⟩ : ∃ b, wi 0 q = b := ⟨_, rfl⟩
  obtain ⟨sr, hsr⟩ : ∃ b, sameR ex nx kx mx sx 0 0 0 0 ⟨#[]⟩ = b := ⟨_, rfl⟩
  rw [hwq] at eF
  simp only [hwq] at cw
  simp only [hsr] at heq
  rw [hsr] at eF
  obtain ⟨an, han⟩ : ∃ b, (decide (0 < q) || sr) = b := ⟨_, rfl⟩
  rw [han] at eF
  have HW1 := Lib.hid HW.out.1
  clear hwq hsr
  go_upto_region 5 with fail
  go_cut [7] from 23 to 43 (fun s7 wx => s7 = .bool an ∧ wx = w11)
  case first =>
    rw [← HW.out.1, ← HW.out.2]
    clear x0 x1 x2 x3 x4 y0 y1 y2 y3 y4 k0 k1 k2 k3 k4 k5 k6 f2 f3 f4 f5 f6
    obtain ⟨-, c0, c1, c2, c3, c4, c5, c6, -⟩ := sev_of_block (u := u) (q := q) (r := ⟨ex, nx, kx, mx, sx⟩) HC11.out
    have P11 := HP11.out
    obtain ⟨-, y0, y1, y2, y3, y4⟩ := P11.c5
    dsimp only at c0 c1 c2 c3 c4 c5 c6
    by_cases hq : 0 < q
    · have ha : an = true := by rw [← han]; simp [hq]
      subst ha
      clear heq
      go_wp2_with fail
      go_meet
      exact ⟨rfl, rfl⟩
    · cases sr with
      | true =>
        have ha : an = true := by rw [← han]; simp
        subst ha
        go_wp2_with fail
        go_meet
        exact ⟨rfl, rfl⟩
      | false =>
        have ha : an = false := by rw [← han]; simp [hq]
        subst ha
        go_wp2_with fail
        go_meet
        exact ⟨rfl, rfl⟩
  case rest =>
    obtain ⟨rfl, rfl⟩ := hcut
    clear heq han HW HW1 HP11 x0 x1 x2 x3 x4 y0 y1 y2 y3 y4 k0 k1 k2 k3 k4 k5 k6 f2 f3 f4 f5 f6
    obtain ⟨-, d0, d1, d2, d3, d4, d5, d6, df⟩ := sev_of_block (u := 0) (q := 0) (r := ⟨0, 0, 0, 0, ⟨#[]⟩⟩) HR11.out
    have f0 := df 0
    have f1 := df 1
    have f2 := df 2
    have f3 := df 3
    have f4 := df 4
    have f5 := df 5
    have f6 := df 6
    dsimp only at d0 d1 d2 d3 d4 d5 d6
    have HCK := Lib.hid (fun wz (hO : Only w.heap.size wc wz) => sev_of_block (u := u) (q := q) (r := ⟨ex, nx, kx, mx, sx⟩) (HC11.out.only hO (by omega)))
    have hl1 : w.heap.size < wc.heap.size := HR11.out.lt
    have hl2 : w.heap.size + 1 < wc.heap.size := HC11.out.lt
    clear df
    cases yb with
    | false =>
      obtain rfl : false = F := eF
      go_wp2_with fail
      refine wp_region_held_drew (S := fun w' => Only w.heap.size wc w') (by kernel_rfl) (⟨rfl, rfl, rfl, rfl, fun _ _ => rfl⟩) (fun hHeld => ?_)
      refine held_take (i := 0) (v := ?_) rfl (by kernel_rfl) (by kernel_rfl) (by kernel_rfl) (fun _ _ _ h => h) (by rfl) hHeld ?_ ?_
      rotate_left
      · intro wz hSz; obtain ⟨-, c0, c1, c2, c3, c4, c5, c6, -⟩ := HCK.out wz hSz; dsimp only at c0 c1 c2 c3 c4 c5 c6; go_simp; try with_reducible rfl
      simp only [Act.put, List.setIfInBounds_toArray, List.set_cons_zero, List.set_cons_succ]
      refine held_take (i := 1) (v := ?_) rfl (by kernel_rfl) (by kernel_rfl) (by kernel_rfl) (fun _ _ _ h => h) (by rfl) hHeld ?_ ?_
      rotate_left
      · intro wz hSz; go_simp; try with_reducible rfl
      simp only [Act.put, List.setIfInBounds_toArray, List.set_cons_zero, List.set_cons_succ]
      refine held_take (i := 2) (v := .bool false) rfl (by kernel_rfl) (by kernel_rfl) (by kernel_rfl) (fun _ _ _ h => h) (by rfl) hHeld ?_ ?_
      · intro wz hSz; (go_simp; try with_reducible rfl)
      simp only [Act.put, List.setIfInBounds_toArray, List.set_cons_zero, List.set_cons_succ]
      refine held_skip (i := 3) rfl (by kernel_rfl) (by kernel_rfl) (by kernel_rfl) (fun _ _ _ h => h) (by rfl) hHeld ?_
      simp only [Act.put, List.setIfInBounds_toArray, List.set_cons_zero, List.set_cons_succ]
      refine held_skip (i := 4) rfl (by kernel_rfl) (by kernel_rfl) (by kernel_rfl) (fun _ _ _ h => h) (by rfl) hHeld ?_
      simp only [Act.put, List.setIfInBounds_toArray, List.set_cons_zero, List.set_cons_succ]
      refine held_skip (i := 5) rfl (by kernel_rfl) (by kernel_rfl) (by kernel_rfl) (fun _ _ _ h => h) (by rfl) hHeld ?_
      simp only [Act.put, List.setIfInBounds_toArray, List.set_cons_zero, List.set_cons_succ]
      refine held_take (i := 6) (v := .bool false) rfl (by kernel_rfl) (by kernel_rfl) (by kernel_rfl) (fun _ _ _ h => h) (by rfl) hHeld ?_ ?_
      · intro wz hSz; (go_simp; try with_reducible rfl)
      simp only [Act.put, List.setIfInBounds_toArray, List.set_cons_zero, List.set_cons_succ]
      refine held_take (i := 7) (v := .bool false) rfl (by kernel_rfl) (by kernel_rfl) (by kernel_rfl) (fun _ _ _ h => h) (by rfl) hHeld ?_ ?_
      · intro wz hSz; (go_simp; try with_reducible rfl)
      simp only [Act.put, List.setIfInBounds_toArray, List.set_cons_zero, List.set_cons_succ]
      refine held_skip (i := 8) rfl (by kernel_rfl) (by kernel_rfl) (by kernel_rfl) (fun _ _ _ h => h) (by rfl) hHeld ?_
      simp only [Act.put, List.setIfInBounds_toArray, List.set_cons_zero, List.set_cons_succ]
      refine held_take (i := 9) (v := .bool false) rfl (by kernel_rfl) (by kernel_rfl) (by kernel_rfl) (fun _ _ _ h => h) (by rfl) hHeld ?_ ?_
      · intro wz hSz; (go_simp; try with_reducible rfl)
      simp only [Act.put, List.setIfInBounds_toArray, List.set_cons_zero, List.set_cons_succ]
      refine held_one (i := 10) (by kernel_rfl) rfl (by rfl) (fun K hK => ?_)
      go_simp
      obtain ⟨wz, hwz⟩ : ∃ x, x = (((((((wc.setCell ⟨w.heap.size, 0, none⟩ (.int .i64 u)).setCell ⟨w.heap.size, 1, none⟩ (.int .i64 q)).setCell ⟨w.heap.size, 2, none⟩ (.int .i64 ex)).setCell ⟨w.heap.size, 3, none⟩ (.int .i64 nx)).setCell ⟨w.heap.size, 4, none⟩ (.int .i64 kx)).setCell ⟨w.heap.size, 5, none⟩ (.int .i64 mx)).setCell ⟨w.heap.size, 6, none⟩ (.string sx)) := ⟨_, rfl⟩
      obtain ⟨R7, o7⟩ := blk_set7 HR11.out u q ⟨ex, nx, kx, mx, sx⟩ wz hwz
      have o8 : Only w.heap.size wc wz.drew := ⟨o7.os, o7.tape, o7.output, o7.size, o7.block⟩
      have hOz := (HO11.out.new o7 (Nat.le_refl _)).later ((Below.refl _ _).drew)
      have hRz := (H11.out.blk HR11.out (noU8_7 _ _ _) o7 hgr).drew
      have HZ := Lib.hid (And.intro hRz hOz)
      rw [← hwz]
      obtain ⟨-, p0, p1, p2, p3, p4, p5, p6, -⟩ := sev_of_block (u := u) (q := q) (r := ⟨ex, nx, kx, mx, sx⟩) R7
      dsimp only at p0 p1 p2 p3 p4 p5 p6
      refine hK _ _ o8 ?_
      replace hHeld := o8
      clear hwz R7 o7 o8 hOz hRz d0 d1 d2 d3 d4 d5 d6 f0 f1 f2 f3 f4 f5 f6 hK
      try simp only [Act.put, List.setIfInBounds_toArray, List.set_cons_zero, List.set_cons_succ]
      refine held_take (i := 11) (v := ?_) rfl (by kernel_rfl) (by kernel_rfl) (by kernel_rfl) (fun _ _ _ h => h) (by rfl) hHeld ?_ ?_
      rotate_left
      · intro wz hSz; go_simp; try with_reducible rfl
      simp only [Act.put, List.setIfInBounds_toArray, List.set_cons_zero, List.set_cons_succ]
      refine wpAnyH_done (by kernel_rfl) ?_ _
      go_wp2_with fail
      refine bodyPost_ret (v := .tuple #[V7 u q ⟨ex, nx, kx, mx, sx⟩, .bool false]) (by simp [results, Tryz.results64, go_sem, p0, p1, p2, p3, p4, p5, p6]) rfl ?_
      exact ⟨rfl, HZ.out.1, HZ.out.2⟩
    | true =>
      cases wq with
      | false =>
        obtain rfl : false = F := eF
        go_wp2_with fail
        refine wp_region_held_drew (S := fun w' => Only w.heap.size wc w') (by kernel_rfl) (⟨rfl, rfl, rfl, rfl, fun _ _ => rfl⟩) (fun hHeld => ?_)
        refine held_take (i := 0) (v := ?_) rfl (by kernel_rfl) (by kernel_rfl) (by kernel_rfl) (fun _ _ _ h => h) (by rfl) hHeld ?_ ?_
        rotate_left
        · intro wz hSz; obtain ⟨-, c0, c1, c2, c3, c4, c5, c6, -⟩ := HCK.out wz hSz; dsimp only at c0 c1 c2 c3 c4 c5 c6; go_simp; try with_reducible rfl
        simp only [Act.put, List.setIfInBounds_toArray, List.set_cons_zero, List.set_cons_succ]
        refine held_take (i := 1) (v := ?_) rfl (by kernel_rfl) (by kernel_rfl) (by kernel_rfl) (fun _ _ _ h => h) (by rfl) hHeld ?_ ?_
        rotate_left
        · intro wz hSz; go_simp; try with_reducible rfl
        simp only [Act.put, List.setIfInBounds_toArray, List.set_cons_zero, List.set_cons_succ]
        refine held_take (i := 2) (v := .bool true) rfl (by kernel_rfl) (by kernel_rfl) (by kernel_rfl) (fun _ _ _ h => h) (by rfl) hHeld ?_ ?_
        · intro wz hSz; (go_simp; try with_reducible rfl)
        simp only [Act.put, List.setIfInBounds_toArray, List.set_cons_zero, List.set_cons_succ]
        refine held_take (i := 3) (v := ?_) rfl (by kernel_rfl) (by kernel_rfl) (by kernel_rfl) (fun _ _ _ h => h) (by rfl) hHeld ?_ ?_
        rotate_left
        · intro wz hSz; go_simp; try with_reducible rfl
        simp only [Act.put, List.setIfInBounds_toArray, List.set_cons_zero, List.set_cons_succ]
        refine held_take (i := 4) (v := ?_) rfl (by kernel_rfl) (by kernel_rfl) (by kernel_rfl) (fun _ _ _ h => h) (by rfl) hHeld ?_ ?_
        rotate_left
        · intro wz hSz; obtain ⟨-, c0, c1, c2, c3, c4, c5, c6, -⟩ := HCK.out wz hSz; dsimp only at c0 c1 c2 c3 c4 c5 c6; go_simp; try with_reducible rfl
        simp only [Act.put, List.setIfInBounds_toArray, List.set_cons_zero, List.set_cons_succ]
        refine held_call (i := 5) (by kernel_rfl) rfl (by rfl) (by go_simp; try with_reducible rfl) ((cw _)) ?_
        rintro e wy ⟨rfl, rfl⟩
        refine ⟨_, rfl, hHeld, ?_⟩
        replace hHeld := hHeld
        simp only [Act.put, List.setIfInBounds_toArray, List.set_cons_zero, List.set_cons_succ]
        refine held_take (i := 6) (v := .bool false) rfl (by kernel_rfl) (by kernel_rfl) (by kernel_rfl) (fun _ _ _ h => h) (by rfl) hHeld ?_ ?_
        · intro wz hSz; (go_simp; try with_reducible rfl)
        simp only [Act.put, List.setIfInBounds_toArray, List.set_cons_zero, List.set_cons_succ]
        refine held_take (i := 7) (v := .bool false) rfl (by kernel_rfl) (by kernel_rfl) (by kernel_rfl) (fun _ _ _ h => h) (by rfl) hHeld ?_ ?_
        · intro wz hSz; (go_simp; try with_reducible rfl)
        simp only [Act.put, List.setIfInBounds_toArray, List.set_cons_zero, List.set_cons_succ]
        refine held_skip (i := 8) rfl (by kernel_rfl) (by kernel_rfl) (by kernel_rfl) (fun _ _ _ h => h) (by rfl) hHeld ?_
        simp only [Act.put, List.setIfInBounds_toArray, List.set_cons_zero, List.set_cons_succ]
        refine held_take (i := 9) (v := .bool false) rfl (by kernel_rfl) (by kernel_rfl) (by kernel_rfl) (fun _ _ _ h => h) (by rfl) hHeld ?_ ?_
        · intro wz hSz; (go_simp; try with_reducible rfl)
        simp only [Act.put, List.setIfInBounds_toArray, List.set_cons_zero, List.set_cons_succ]
        refine held_one (i := 10) (by kernel_rfl) rfl (by rfl) (fun K hK => ?_)
        go_simp
        obtain ⟨wz, hwz⟩ : ∃ x, x = (((((((wc.setCell ⟨w.heap.size, 0, none⟩ (.int .i64 u)).setCell ⟨w.heap.size, 1, none⟩ (.int .i64 q)).setCell ⟨w.heap.size, 2, none⟩ (.int .i64 ex)).setCell ⟨w.heap.size, 3, none⟩ (.int .i64 nx)).setCell ⟨w.heap.size, 4, none⟩ (.int .i64 kx)).setCell ⟨w.heap.size, 5, none⟩ (.int .i64 mx)).setCell ⟨w.heap.size, 6, none⟩ (.string sx)) := ⟨_, rfl⟩
        obtain ⟨R7, o7⟩ := blk_set7 HR11.out u q ⟨ex, nx, kx, mx, sx⟩ wz hwz
        have o8 : Only w.heap.size wc wz.drew := ⟨o7.os, o7.tape, o7.output, o7.size, o7.block⟩
        have hOz := (HO11.out.new o7 (Nat.le_refl _)).later ((Below.refl _ _).drew)
        have hRz := (H11.out.blk HR11.out (noU8_7 _ _ _) o7 hgr).drew
        have HZ := Lib.hid (And.intro hRz hOz)
        rw [← hwz]
        obtain ⟨-, p0, p1, p2, p3, p4, p5, p6, -⟩ := sev_of_block (u := u) (q := q) (r := ⟨ex, nx, kx, mx, sx⟩) R7
        dsimp only at p0 p1 p2 p3 p4 p5 p6
        refine hK _ _ o8 ?_
        replace hHeld := o8
        clear hwz R7 o7 o8 hOz hRz d0 d1 d2 d3 d4 d5 d6 f0 f1 f2 f3 f4 f5 f6 hK
        try simp only [Act.put, List.setIfInBounds_toArray, List.set_cons_zero, List.set_cons_succ]
        refine held_take (i := 11) (v := ?_) rfl (by kernel_rfl) (by kernel_rfl) (by kernel_rfl) (fun _ _ _ h => h) (by rfl) hHeld ?_ ?_
        rotate_left
        · intro wz hSz; go_simp; try with_reducible rfl
        simp only [Act.put, List.setIfInBounds_toArray, List.set_cons_zero, List.set_cons_succ]
        refine wpAnyH_done (by kernel_rfl) ?_ _
        go_wp2_with fail
        refine bodyPost_ret (v := .tuple #[V7 u q ⟨ex, nx, kx, mx, sx⟩, .bool false]) (by simp [results, Tryz.results64, go_sem, p0, p1, p2, p3, p4, p5, p6]) rfl ?_
        exact ⟨rfl, HZ.out.1, HZ.out.2⟩
      | true =>
        cases an with
        | false =>
          obtain rfl : false = F := eF
          go_wp2_with fail
          refine wp_region_held_drew (S := fun w' => Only w.heap.size wc w') (by kernel_rfl) (⟨rfl, rfl, rfl, rfl, fun _ _ => rfl⟩) (fun hHeld => ?_)
          refine held_take (i := 0) (v := ?_) rfl (by kernel_rfl) (by kernel_rfl) (by kernel_rfl) (fun _ _ _ h => h) (by rfl) hHeld ?_ ?_
          rotate_left
          · intro wz hSz; obtain ⟨-, c0, c1, c2, c3, c4, c5, c6, -⟩ := HCK.out wz hSz; dsimp only at c0 c1 c2 c3 c4 c5 c6; go_simp; try with_reducible rfl
          simp only [Act.put, List.setIfInBounds_toArray, List.set_cons_zero, List.set_cons_succ]
          refine held_take (i := 1) (v := ?_) rfl (by kernel_rfl) (by kernel_rfl) (by kernel_rfl) (fun _ _ _ h => h) (by rfl) hHeld ?_ ?_
          rotate_left
          · intro wz hSz; go_simp; try with_reducible rfl
          simp only [Act.put, List.setIfInBounds_toArray, List.set_cons_zero, List.set_cons_succ]
          refine held_take (i := 2) (v := .bool true) rfl (by kernel_rfl) (by kernel_rfl) (by kernel_rfl) (fun _ _ _ h => h) (by rfl) hHeld ?_ ?_
          · intro wz hSz; (go_simp; try with_reducible rfl)
          simp only [Act.put, List.setIfInBounds_toArray, List.set_cons_zero, List.set_cons_succ]
          refine held_take (i := 3) (v := ?_) rfl (by kernel_rfl) (by kernel_rfl) (by kernel_rfl) (fun _ _ _ h => h) (by rfl) hHeld ?_ ?_
          rotate_left
          · intro wz hSz; go_simp; try with_reducible rfl
          simp only [Act.put, List.setIfInBounds_toArray, List.set_cons_zero, List.set_cons_succ]
          refine held_take (i := 4) (v := ?_) rfl (by kernel_rfl) (by kernel_rfl) (by kernel_rfl) (fun _ _ _ h => h) (by rfl) hHeld ?_ ?_
          rotate_left
          · intro wz hSz; obtain ⟨-, c0, c1, c2, c3, c4, c5, c6, -⟩ := HCK.out wz hSz; dsimp only at c0 c1 c2 c3 c4 c5 c6; go_simp; try with_reducible rfl
          simp only [Act.put, List.setIfInBounds_toArray, List.set_cons_zero, List.set_cons_succ]
          refine held_call (i := 5) (by kernel_rfl) rfl (by rfl) (by go_simp; try with_reducible rfl) ((cw _)) ?_
          rintro e wy ⟨rfl, rfl⟩
          refine ⟨_, rfl, hHeld, ?_⟩
          replace hHeld := hHeld
          simp only [Act.put, List.setIfInBounds_toArray, List.set_cons_zero, List.set_cons_succ]
          refine held_take (i := 6) (v := .bool true) rfl (by kernel_rfl) (by kernel_rfl) (by kernel_rfl) (fun _ _ _ h => h) (by rfl) hHeld ?_ ?_
          · intro wz hSz; (go_simp; try with_reducible rfl)
          simp only [Act.put, List.setIfInBounds_toArray, List.set_cons_zero, List.set_cons_succ]
          refine held_take (i := 7) (v := .bool true) rfl (by kernel_rfl) (by kernel_rfl) (by kernel_rfl) (fun _ _ _ h => h) (by rfl) hHeld ?_ ?_
          · intro wz hSz; (go_simp; try with_reducible rfl)
          simp only [Act.put, List.setIfInBounds_toArray, List.set_cons_zero, List.set_cons_succ]
          refine held_take (i := 8) (v := ?_) rfl (by kernel_rfl) (by kernel_rfl) (by kernel_rfl) (fun _ _ _ h => h) (by rfl) hHeld ?_ ?_
          rotate_left
          · intro wz hSz; go_simp; try with_reducible rfl
          simp only [Act.put, List.setIfInBounds_toArray, List.set_cons_zero, List.set_cons_succ]
          refine held_take (i := 9) (v := .bool false) rfl (by kernel_rfl) (by kernel_rfl) (by kernel_rfl) (fun _ _ _ h => h) (by rfl) hHeld ?_ ?_
          · intro wz hSz; (go_simp; try with_reducible rfl)
          simp only [Act.put, List.setIfInBounds_toArray, List.set_cons_zero, List.set_cons_succ]
          refine held_one (i := 10) (by kernel_rfl) rfl (by rfl) (fun K hK => ?_)
          go_simp
          obtain ⟨wz, hwz⟩ : ∃ x, x = (((((((wc.setCell ⟨w.heap.size, 0, none⟩ (.int .i64 u)).setCell ⟨w.heap.size, 1, none⟩ (.int .i64 q)).setCell ⟨w.heap.size, 2, none⟩ (.int .i64 ex)).setCell ⟨w.heap.size, 3, none⟩ (.int .i64 nx)).setCell ⟨w.heap.size, 4, none⟩ (.int .i64 kx)).setCell ⟨w.heap.size, 5, none⟩ (.int .i64 mx)).setCell ⟨w.heap.size, 6, none⟩ (.string sx)) := ⟨_, rfl⟩
          obtain ⟨R7, o7⟩ := blk_set7 HR11.out u q ⟨ex, nx, kx, mx, sx⟩ wz hwz
          have o8 : Only w.heap.size wc wz.drew := ⟨o7.os, o7.tape, o7.output, o7.size, o7.block⟩
          have hOz := (HO11.out.new o7 (Nat.le_refl _)).later ((Below.refl _ _).drew)
          have hRz := (H11.out.blk HR11.out (noU8_7 _ _ _) o7 hgr).drew
          have HZ := Lib.hid (And.intro hRz hOz)
          rw [← hwz]
          obtain ⟨-, p0, p1, p2, p3, p4, p5, p6, -⟩ := sev_of_block (u := u) (q := q) (r := ⟨ex, nx, kx, mx, sx⟩) R7
          dsimp only at p0 p1 p2 p3 p4 p5 p6
          refine hK _ _ o8 ?_
          replace hHeld := o8
          clear hwz R7 o7 o8 hOz hRz d0 d1 d2 d3 d4 d5 d6 f0 f1 f2 f3 f4 f5 f6 hK
          try simp only [Act.put, List.setIfInBounds_toArray, List.set_cons_zero, List.set_cons_succ]
          refine held_take (i := 11) (v := ?_) rfl (by kernel_rfl) (by kernel_rfl) (by kernel_rfl) (fun _ _ _ h => h) (by rfl) hHeld ?_ ?_
          rotate_left
          · intro wz hSz; go_simp; try with_reducible rfl
          simp only [Act.put, List.setIfInBounds_toArray, List.set_cons_zero, List.set_cons_succ]
          refine wpAnyH_done (by kernel_rfl) ?_ _
          go_wp2_with fail
          refine bodyPost_ret (v := .tuple #[V7 u q ⟨ex, nx, kx, mx, sx⟩, .bool false]) (by simp [results, Tryz.results64, go_sem, p0, p1, p2, p3, p4, p5, p6]) rfl ?_
          exact ⟨rfl, HZ.out.1, HZ.out.2⟩
        | true =>
          obtain rfl : true = F := eF
          go_wp2_with fail
          refine wp_region_held_drew (S := fun w' => Only w.heap.size wc w') (by kernel_rfl) (⟨rfl, rfl, rfl, rfl, fun _ _ => rfl⟩) (fun hHeld => ?_)
          refine held_take (i := 0) (v := ?_) rfl (by kernel_rfl) (by kernel_rfl) (by kernel_rfl) (fun _ _ _ h => h) (by rfl) hHeld ?_ ?_
          rotate_left
          · intro wz hSz; obtain ⟨-, c0, c1, c2, c3, c4, c5, c6, -⟩ := HCK.out wz hSz; dsimp only at c0 c1 c2 c3 c4 c5 c6; go_simp; try with_reducible rfl
          simp only [Act.put, List.setIfInBounds_toArray, List.set_cons_zero, List.set_cons_succ]
          refine held_take (i := 1) (v := ?_) rfl (by kernel_rfl) (by kernel_rfl) (by kernel_rfl) (fun _ _ _ h => h) (by rfl) hHeld ?_ ?_
          rotate_left
          · intro wz hSz; go_simp; try with_reducible rfl
          simp only [Act.put, List.setIfInBounds_toArray, List.set_cons_zero, List.set_cons_succ]
          refine held_take (i := 2) (v := .bool true) rfl (by kernel_rfl) (by kernel_rfl) (by kernel_rfl) (fun _ _ _ h => h) (by rfl) hHeld ?_ ?_
          · intro wz hSz; (go_simp; try with_reducible rfl)
          simp only [Act.put, List.setIfInBounds_toArray, List.set_cons_zero, List.set_cons_succ]
          refine held_take (i := 3) (v := ?_) rfl (by kernel_rfl) (by kernel_rfl) (by kernel_rfl) (fun _ _ _ h => h) (by rfl) hHeld ?_ ?_
          rotate_left
          · intro wz hSz; go_simp; try with_reducible rfl
          simp only [Act.put, List.setIfInBounds_toArray, List.set_cons_zero, List.set_cons_succ]
          refine held_take (i := 4) (v := ?_) rfl (by kernel_rfl) (by kernel_rfl) (by kernel_rfl) (fun _ _ _ h => h) (by rfl) hHeld ?_ ?_
          rotate_left
          · intro wz hSz; obtain ⟨-, c0, c1, c2, c3, c4, c5, c6, -⟩ := HCK.out wz hSz; dsimp only at c0 c1 c2 c3 c4 c5 c6; go_simp; try with_reducible rfl
          simp only [Act.put, List.setIfInBounds_toArray, List.set_cons_zero, List.set_cons_succ]
          refine held_call (i := 5) (by kernel_rfl) rfl (by rfl) (by go_simp; try with_reducible rfl) ((cw _)) ?_
          rintro e wy ⟨rfl, rfl⟩
          refine ⟨_, rfl, hHeld, ?_⟩
          replace hHeld := hHeld
          simp only [Act.put, List.setIfInBounds_toArray, List.set_cons_zero, List.set_cons_succ]
          refine held_take (i := 6) (v := .bool true) rfl (by kernel_rfl) (by kernel_rfl) (by kernel_rfl) (fun _ _ _ h => h) (by rfl) hHeld ?_ ?_
          · intro wz hSz; (go_simp; try with_reducible rfl)
          simp only [Act.put, List.setIfInBounds_toArray, List.set_cons_zero, List.set_cons_succ]
          refine held_take (i := 7) (v := .bool true) rfl (by kernel_rfl) (by kernel_rfl) (by kernel_rfl) (fun _ _ _ h => h) (by rfl) hHeld ?_ ?_
          · intro wz hSz; (go_simp; try with_reducible rfl)
          simp only [Act.put, List.setIfInBounds_toArray, List.set_cons_zero, List.set_cons_succ]
          refine held_take (i := 8) (v := ?_) rfl (by kernel_rfl) (by kernel_rfl) (by kernel_rfl) (fun _ _ _ h => h) (by rfl) hHeld ?_ ?_
          rotate_left
          · intro wz hSz; go_simp; try with_reducible rfl
          simp only [Act.put, List.setIfInBounds_toArray, List.set_cons_zero, List.set_cons_succ]
          refine held_take (i := 9) (v := .bool true) rfl (by kernel_rfl) (by kernel_rfl) (by kernel_rfl) (fun _ _ _ h => h) (by rfl) hHeld ?_ ?_
          · intro wz hSz; (go_simp; try with_reducible rfl)
          simp only [Act.put, List.setIfInBounds_toArray, List.set_cons_zero, List.set_cons_succ]
          refine held_one (i := 10) (by kernel_rfl) rfl (by rfl) (fun K hK => ?_)
          go_simp
          obtain ⟨wz, hwz⟩ : ∃ x, x = (((((((wc.setCell ⟨w.heap.size, 0, none⟩ (.int .i64 u)).setCell ⟨w.heap.size, 1, none⟩ (.int .i64 q)).setCell ⟨w.heap.size, 2, none⟩ (.int .i64 ex)).setCell ⟨w.heap.size, 3, none⟩ (.int .i64 nx)).setCell ⟨w.heap.size, 4, none⟩ (.int .i64 kx)).setCell ⟨w.heap.size, 5, none⟩ (.int .i64 mx)).setCell ⟨w.heap.size, 6, none⟩ (.string sx)) := ⟨_, rfl⟩
          obtain ⟨R7, o7⟩ := blk_set7 HR11.out u q ⟨ex, nx, kx, mx, sx⟩ wz hwz
          have o8 : Only w.heap.size wc wz.drew := ⟨o7.os, o7.tape, o7.output, o7.size, o7.block⟩
          have hOz := (HO11.out.new o7 (Nat.le_refl _)).later ((Below.refl _ _).drew)
          have hRz := (H11.out.blk HR11.out (noU8_7 _ _ _) o7 hgr).drew
          have HZ := Lib.hid (And.intro hRz hOz)
          rw [← hwz]
          obtain ⟨-, p0, p1, p2, p3, p4, p5, p6, -⟩ := sev_of_block (u := u) (q := q) (r := ⟨ex, nx, kx, mx, sx⟩) R7
          dsimp only at p0 p1 p2 p3 p4 p5 p6
          refine hK _ _ o8 ?_
          replace hHeld := o8
          clear hwz R7 o7 o8 hOz hRz d0 d1 d2 d3 d4 d5 d6 f0 f1 f2 f3 f4 f5 f6 hK
          try simp only [Act.put, List.setIfInBounds_toArray, List.set_cons_zero, List.set_cons_succ]
          refine held_take (i := 11) (v := ?_) rfl (by kernel_rfl) (by kernel_rfl) (by kernel_rfl) (fun _ _ _ h => h) (by rfl) hHeld ?_ ?_
          rotate_left
          · intro wz hSz; go_simp; try with_reducible rfl
          simp only [Act.put, List.setIfInBounds_toArray, List.set_cons_zero, List.set_cons_succ]
          refine wpAnyH_done (by kernel_rfl) ?_ _
          go_wp2_with fail
          refine bodyPost_ret (v := .tuple #[V7 u q ⟨ex, nx, kx, mx, sx⟩, .bool true]) (by simp [results, Tryz.results64, go_sem, p0, p1, p2, p3, p4, p5, p6]) rfl ?_
          exact ⟨rfl, HZ.out.1, HZ.out.2⟩
end
/- A table is read of any bytes. -/
section
open Go.RowKit Go.Maps Go.Sort Go.Shelf
set_option linter.unusedSimpArgs false

/-- How the reading of a table ends. -/
def ReadT (N g most : Nat) (w : World) (o : Option (List Se × St)) (e : Ending) (w' : World) : Prop :=
  Onl g w w' ∧ ((∃ L s' m, o = some (L, s') ∧ e = .returned (.tuple #[.map (some m), .bool true]) ∧ w.heap.size ≤ m ∧ MapT w' m L ∧ Tb most L ∧ Rd N w' g s' ∧ s'.2 = false) ∨ (∃ v s', o = none ∧ e = .returned (.tuple #[v, .bool false]) ∧ Rd N w' g s'))
theorem loadT_of {most n : Nat} {s s1 : St} (h : stC (most : Int) s = ((n : Int), s1)) : loadT most s = match loopT n [] s1 with
    | none => none
    | some (L, s') => if s'.2 then none else some (L, s') := by
  unfold loadT; rw [h]; rfl
theorem Rd.isDead {N : Nat} {w : World} {g : Nat} {s : St} (h : Rd N w g s) : Dead s := fun hf => h.dead hf
set_option maxHeartbeats 2000000 in
set_option maxRecDepth 100000 in
theorem stread_at (N g most : Nat) (s : St) (w : World) (hm1 : 1 ≤ most) (hm2 : most ≤ 64) (h : Rd N w g s) (wB : World) (hT : Tabs wB) (hTB : Below wB.heap.size wB w) (hg : wB.heap.size ≤ g) :
    Calls Tryz.prog 39 #[.pointer (some ⟨g, 0, none⟩), .int .i64 (most : Int)] w (ReadT N g most w (loadT most s)) := by
  have hlo := stC_lo (most : Int) s
  have hmost : (stC (most : Int) s).1 ≤ (most : Int) := by
    by_cases hk : 0 ≤ (stI s).1 ∧ (stI s).1 ≤ (most : Int) ∧ (stI s).1 ≤ ((stI s).2.1.length : Int)
    · rw [stC_yes hk]; exact hk.2.1
    · rw [stC_no hk]; show (0 : Int) ≤ _; omega
  obtain ⟨n, s1, e1⟩ : ∃ (n : Nat) (s1 : St), stC (most : Int) s = ((n : Int), s1) := ⟨(stC (most : Int) s).1.toNat, (stC (most : Int) s).2, by rw [Int.toNat_of_nonneg hlo.1]⟩
  have hR := loadT_of e1
  rw [e1] at hmost
  dsimp only at hmost
  have hlen : n ≤ most := by omega
  have hgl := h.lt
  have hmk := makeT w
  have b0 := Ss.below_alloc w (.map #[] 0)
  have h0 := h.below b0 (Nat.le_refl _)
  have m0 := MapT.new w
  have z0 : (w.alloc (.map #[] 0)).heap.size = w.heap.size + 1 := by simp
  have o0 := (Onl.refl g w).later b0
  obtain ⟨w0, hw0⟩ : ∃ x, w.alloc (.map #[] 0) = x := ⟨_, rfl⟩
  rw [hw0] at b0 h0 m0 z0 o0 hmk
  have c0 := rcount_any N g s (most : Int) w0 h0
  rw [e1] at c0
  dsimp only at c0
  have HM0 := Lib.hid m0
  have HO0 := Lib.hid o0
  have hgM : g ≠ w.heap.size := by omega
  have HRR := Lib.hid hR
  have hTb0 : Tb most [] := Tb.nil hm1 hm2
  have HL0 : Hid (Tb most [] ∧ ([] : List Se).length = 0) := Lib.hid ⟨hTb0, rfl⟩
  clear h h0 m0 o0 b0 e1 z0 hR hlo hmost hTb0
  go_enter Tryz.func39, Tryz.ntmps39
  go_wp2_with fail
  refine c0.mono ?_
  rintro e w1 ⟨rfl, h1, o1⟩
  have HR1 := Lib.hid h1
  have HM1 : Hid (MapT w1 w.heap.size []) := Lib.hid (HM0.out.same (o1.block _ hgM.symm))
  have HO1 := Lib.hid (HO0.out.only o1)
  clear c0 h1 o1 HM0 HO0 hmk hw0
  go_wp2_with fail
  go_loopg [7, 15] (n) (fun m s7 s15 wr => ∃ (k : Nat) (L : List Se) (sx : St), k + m = n ∧ s15 = .int .i64 (k : Int) ∧ s7 = .int .i64 (lastId L) ∧ Hid (Tb most L ∧ L.length = k) ∧ Hid (MapT wr w.heap.size L) ∧ Hid (Rd N wr g sx) ∧ Hid (Onl g w wr) ∧ Hid (loopT m L sx = loopT n [] s1))
  case atStart => exact ⟨0, [], s1, by omega, rfl, by rw [lastId_nil], HL0, HM1, HR1, HO1, Lib.hid rfl⟩
  case round =>
    obtain ⟨k, L, sx, hkm, rfl, rfl, HL, HM, HR, HO, HE⟩ := hrel
    have HKM := Lib.hid hkm
    clear HR1 HM1 HO1 HL0
    by_cases hk : k < n
    · have hkz : (k : Int) < (n : Int) := by omega
      obtain ⟨i, sa, ei⟩ : ∃ i sa, stI sx = (i, sa) := ⟨_, _, rfl⟩
      obtain ⟨u, sb, eu⟩ : ∃ u sb, stI sa = (u, sb) := ⟨_, _, rfl⟩
      obtain ⟨q, sc, eq⟩ : ∃ q sc, stI sb = (q, sc) := ⟨_, _, rfl⟩
      obtain ⟨P, sd, eP⟩ : ∃ P sd, stT (sc.1.length : Int) sc = (P, sd) := ⟨_, _, rfl⟩
      obtain ⟨r, yb, ey⟩ : ∃ r yb, getP P = (r, yb) := ⟨_, _, rfl⟩
      obtain ⟨F, eF⟩ : ∃ F, (yb && (wi 0 q && (decide (0 < q) || sameR r.e r.n r.K r.m r.s 0 0 0 0 ⟨#[]⟩))) = F := ⟨_, rfl⟩
      have hgs := gS_of eu eq eP ey
      rw [eF] at hgs
      have hi0 := stI_lo sx
      have hu0 := stI_lo sa
      rw [ei] at hi0
      rw [eu] at hu0
      dsimp only at hi0 hu0
      have hlast := last_in HL.out.1
      have c1 := int_any N g sx wr HR.out
      rw [ei] at c1
      dsimp only at c1
      have cG := fun W H HT => stget_at N g sa sb sc sd u q P r yb F W H wB hT HT hg eu eq eP ey eF
      obtain ⟨bf, hbf⟩ : ∃ b, lastId L = b := ⟨_, rfl⟩
      rw [hbf] at hlast ⊢
      have hwr : wrap64 (bf + 1) = bf + 1 := by unfold wrap64; omega
      have cw1 := fun W => stwithin_any (bf + 1) i W
      have cw2 := fun W => stwithin_any i u W
      obtain ⟨v1, hv1⟩ : ∃ b, wi (bf + 1) i = b := ⟨_, rfl⟩
      obtain ⟨v2, hv2⟩ : ∃ b, wi i u = b := ⟨_, rfl⟩
      simp only [hv1] at cw1
      simp only [hv2] at cw2
      have hno : (F && (v1 && v2)) = false → loopT n [] s1 = none := fun hf => by
        rw [← HE.out, show gk = (gk - 1) + 1 by omega]; exact loopT_none (oneT_no ei hgs (by rw [hbf, hv1, hv2]; exact hf))
      have hyes : F = true → v1 = true → v2 = true → oneT (lastId L) sx = some (⟨i, u, q, r⟩, sd) := fun h1 h2 h3 => by
        rw [h1] at hgs
        exact oneT_yes ei hgs (by rw [hbf, hv1, h2]) (by rw [hv2, h3])
      have HNO := Lib.hid hno
      have HYES := Lib.hid hyes
      have HBF := Lib.hid hbf
      have hdd := HR.out.isDead
      have HDD := Lib.hid hdd
      clear hkm ei eu eq eP ey eF hgs hi0 hu0 hv1 hv2 hno hyes hbf hdd
      go_wp2_with fail
      refine c1.mono ?_
      rintro e w2 ⟨rfl, h2, o2⟩
      have HO2 := Lib.hid (HO.out.only o2)
      have HM2 : Hid (MapT w2 w.heap.size L) := Lib.hid (HM.out.same (o2.block _ hgM.symm))
      have cG2 := cG w2 h2 (hTB.trans (HO2.out.below hg hTB.size))
      clear c1 h2 o2 cG HO HM HR
      go_wp2_with fail
      refine cG2.mono ?_
      rintro e w3 ⟨rfl, h3, o3⟩
      have HO3 : Hid (Onl g w w3) := Lib.hid (HO2.out.both o3)
      have HM3 : Hid (MapT w3 w.heap.size L) := Lib.hid (HM2.out.same (o3.block _ HM2.out.lt hgM.symm))
      have HR3 := Lib.hid h3
      have b4 := Ss.below_alloc w3 (.cells (cs7 0 0 ⟨0, 0, 0, 0, ⟨#[]⟩⟩) 68)
      have S4 := Blk.new w3 (cs7 0 0 ⟨0, 0, 0, 0, ⟨#[]⟩⟩) 68
      obtain ⟨w4, hw4⟩ : ∃ x, w3.alloc (.cells (cs7 0 0 ⟨0, 0, 0, 0, ⟨#[]⟩⟩) 68) = x := ⟨_, rfl⟩
      rw [hw4] at b4 S4
      have h4 := HR3.out.below b4 (Nat.le_refl _)
      have hM4 := HM3.out.later b4
      have hO4 := HO3.out.later b4
      have hgG : g ≠ w3.heap.size := by have := HR3.out.lt; omega
      have hMG : w.heap.size ≠ w3.heap.size := by have := HM3.out.lt; omega
      have hwG : w.heap.size ≤ w3.heap.size := HO3.out.size
      obtain ⟨G, hG⟩ : ∃ G, w3.heap.size = G := ⟨_, rfl⟩
      rw [hG] at S4 hgG hMG hwG
      obtain ⟨ex, nx, kx, mx, tx⟩ := r
      dsimp only at *
      obtain ⟨w5, hw5⟩ : ∃ x, x = (((((((w4.setCell ⟨G, 0, none⟩ (.int .i64 u)).setCell ⟨G, 1, none⟩ (.int .i64 q)).setCell ⟨G, 2, none⟩ (.int .i64 ex)).setCell ⟨G, 3, none⟩ (.int .i64 nx)).setCell ⟨G, 4, none⟩ (.int .i64 kx)).setCell ⟨G, 5, none⟩ (.int .i64 mx)).setCell ⟨G, 6, none⟩ (.string tx)) := ⟨_, rfl⟩
      obtain ⟨S5, o5⟩ := blk_set7 S4 u q ⟨ex, nx, kx, mx, tx⟩ w5 hw5
      have h5 := h4.blk S4 (noU8_7 _ _ _) o5 hgG
      have hM5 : MapT w5 w.heap.size L := hM4.same (o5.block _ hMG)
      have hO5 := hO4.new o5 hwG
      have HR5 := Lib.hid h5
      have HM5 := Lib.hid hM5
      have HO5 := Lib.hid hO5
      have HS5 := Lib.hid S5
      have HW5 := Lib.hid hw5
      obtain ⟨-, y0, y1, y2, y3, y4, y5, y6, yf⟩ := sev_of_block (u := 0) (q := 0) (r := ⟨0, 0, 0, 0, ⟨#[]⟩⟩) S4
      have f0 := yf 0
      have f1 := yf 1
      have f2 := yf 2
      have f3 := yf 3
      have f4 := yf 4
      have f5 := yf 5
      have f6 := yf 6
      clear hM5 S5 hw5 h5 hO5 h4 hM4 hO4 b4 o5 S4 yf HR3 HO3 HM3 h3 o3 HO2 HM2 cG2
      cases F with
      | false =>
        go_wp2_with fail
        rw [← HW5.out]
        clear y0 y1 y2 y3 y4 y5 y6 f0 f1 f2 f3 f4 f5 f6 hw4 cw1 cw2 HW5
        go_wp2_with fail
        go_ret2
        refine ⟨HO5.out, .inr ⟨_, sd, ?_, rfl, HR5.out⟩⟩
        rw [HRR.out, HNO.out rfl]
      | true =>
        cases v1 with
        | false =>
          go_wp2_with fail
          rw [← HW5.out]
          try rw [hwr]
          refine (cw1 _).mono ?_
          rintro e w7 ⟨rfl, rfl⟩
          clear y0 y1 y2 y3 y4 y5 y6 f0 f1 f2 f3 f4 f5 f6 hw4 cw1 cw2 HW5
          go_wp2_with fail
          go_ret2
          refine ⟨HO5.out, .inr ⟨_, sd, ?_, rfl, HR5.out⟩⟩
          rw [HRR.out, HNO.out rfl]
        | true =>
          cases v2 with
          | false =>
            go_wp2_with fail
            rw [← HW5.out]
            try rw [hwr]
            refine (cw1 _).mono ?_
            rintro e w7 ⟨rfl, rfl⟩
            clear y0 y1 y2 y3 y4 y5 y6 f0 f1 f2 f3 f4 f5 f6 hw4 cw1 HW5
            obtain ⟨-, y0, y1, y2, y3, y4, y5, y6, -⟩ := sev_of_block (u := u) (q := q) (r := ⟨ex, nx, kx, mx, tx⟩) HS5.out
            go_wp2_with fail
            refine (cw2 _).mono ?_
            rintro e w7 ⟨rfl, rfl⟩
            clear y0 y1 y2 y3 y4 y5 y6 cw2
            go_wp2_with fail
            go_ret2
            refine ⟨HO5.out, .inr ⟨_, sd, ?_, rfl, HR5.out⟩⟩
            rw [HRR.out, HNO.out rfl]
          | true =>
            have hone := HYES.out rfl rfl rfl
            have hst := oneT_tb HL.out.1 (by have := HL.out.2; omega) HDD.out hone
            obtain ⟨w6, hput, hbM, hM6⟩ := insT (a := w.heap.size) ⟨i, u, q, ⟨ex, nx, kx, mx, tx⟩⟩ HM5.out HL.out.1.up (fun t h => by have := hst.lt t h; dsimp only at this ⊢; omega)
            rw [hst.ins] at hM6
            have hput' : (Instr.mapUpdate 42 (.map (some w.heap.size)) (.int .i64 i) (.agg #[.int .i64 u, .int .i64 q, .int .i64 ex, .int .i64 nx, .int .i64 kx, .int .i64 mx, .string tx])).run Tryz.prog w5 = .ok () w6 := hput
            obtain ⟨es5, cl5, hb5, -⟩ := HM5.out
            have HR6 := Lib.hid (HR5.out.map hb5 hbM hgM)
            have HO6 := Lib.hid (HO5.out.map hbM (Nat.le_refl _))
            have HM6 := Lib.hid hM6
            have HL6 : Hid (Tb most (L ++ [⟨i, u, q, ⟨ex, nx, kx, mx, tx⟩⟩]) ∧ (L ++ [(⟨i, u, q, ⟨ex, nx, kx, mx, tx⟩⟩ : Se)]).length = k + 1) := Lib.hid ⟨hst.tb, by rw [List.length_append, HL.out.2]; rfl⟩
            have HE6 : Hid (loopT (n - (k + 1)) (L ++ [⟨i, u, q, ⟨ex, nx, kx, mx, tx⟩⟩]) sd = loopT n [] s1) := Lib.hid (by
              have h1 := HE.out
              have h2 := HKM.out
              rw [← h1, ← loopT_some hone]
              congr 1
              omega)
            clear hput hbM hM6 hb5 hone hst
            go_wp2_with fail
            rw [← HW5.out]
            try rw [hwr]
            refine (cw1 _).mono ?_
            rintro e w7 ⟨rfl, rfl⟩
            clear y0 y1 y2 y3 y4 y5 y6 f0 f1 f2 f3 f4 f5 f6 hw4 cw1 HW5
            obtain ⟨-, y0, y1, y2, y3, y4, y5, y6, -⟩ := sev_of_block (u := u) (q := q) (r := ⟨ex, nx, kx, mx, tx⟩) HS5.out
            go_wp2_with fail
            refine (cw2 _).mono ?_
            rintro e w7 ⟨rfl, rfl⟩
            go_wp2_with fail
            go_roundg (n - (k + 1))
            case measure => have := HKM.out; omega
            case rel => exact ⟨k + 1, _, sd, by have := HKM.out; omega, by go_num, by rw [lastId_snoc], HL6, HM6, HR6, HO6, HE6⟩
    · have hkn : k = n := by omega
      have hkz : ¬ (k : Int) < (n : Int) := by omega
      have cO := ok_any N g sx wr HR.out
      have HF : Hid (loadT most s = if sx.2 then none else some (L, sx)) := Lib.hid (by
        rw [HRR.out, ← HE.out, show gk = 0 by have := HKM.out; omega, loopT_zero])
      obtain ⟨fb, hfb⟩ : ∃ b, sx.2 = b := ⟨_, rfl⟩
      have HFB := Lib.hid hfb
      rw [hfb] at cO
      clear hkm hkn hfb
      cases fb with
      | false =>
        go_wp2_with fail
        refine cO.mono ?_
        rintro e w2 ⟨rfl, rfl⟩
        go_wp2_with fail
        go_ret2
        refine ⟨HO.out, .inl ⟨L, sx, w.heap.size, ?_, rfl, Nat.le_refl _, HM.out, HL.out.1, HR.out, HFB.out⟩⟩
        rw [HF.out, HFB.out]; rfl
      | true =>
        go_wp2_with fail
        refine cO.mono ?_
        rintro e w2 ⟨rfl, rfl⟩
        go_wp2_with fail
        go_ret2
        refine ⟨HO.out, .inr ⟨_, sx, ?_, rfl, HR.out⟩⟩
        rw [HF.out, HFB.out]; rfl
end
/- A table is loaded of any bytes. -/
section
open Go.RowKit Go.Maps Go.Sort Go.Shelf
set_option linter.unusedSimpArgs false

/-- How a load ends: the table is what was read, or as it was, and the reader failed. -/
def LoadT (N g T r most : Nat) (L0 : List Se) (w : World) (o : Option (List Se × St)) (e : Ending) (w' : World) : Prop :=
  But2 g T w w' ∧ ((∃ L s' m, o = some (L, s') ∧ e = .returned (.bool true) ∧ w.heap.size ≤ m ∧ Tab w' T m most L ∧ Rd N w' g s' ∧ s'.2 = false) ∨ (o = none ∧ e = .returned (.bool false) ∧ Tab w' T r most L0 ∧ Rd N w' g ([], true)))
theorem Onl.but {g T : Nat} {w w' : World} (h : Onl g w w') : But2 g T w w' := ⟨h.os, h.tape, h.output, h.size, fun k hk h1 _ => h.block k hk h1⟩
set_option maxHeartbeats 2000000 in
set_option maxRecDepth 100000 in
theorem stload_at (N g T r most : Nat) (L0 : List Se) (s : St) (w : World) (hK : Tab w T r most L0) (h : Rd N w g s) (hgT : g ≠ T) (hgr : g ≠ r) (hN : T < N) (wB : World) (hT : Tabs wB) (hTB : Below wB.heap.size wB w) (hg : wB.heap.size ≤ g) :
    Calls Tryz.prog 22 #[.pointer (some ⟨T, 0, none⟩), .pointer (some ⟨g, 0, none⟩)] w (LoadT N g T r most L0 w (loadT most s)) := by
  have cR := stread_at N g most s w hK.t.lo hK.t.hi h wB hT hTB hg
  have hc0 := hK.c0
  have HK := Lib.hid hK
  clear h hT hTB hg hK
  go_enter Tryz.func22, Tryz.ntmps22
  go_wp2_with fail
  refine cR.mono ?_
  rintro e w1 ⟨hO, ⟨L, s', m, hl, rfl, hm, hM, ht, hR, hf⟩ | ⟨v, s', hl, rfl, hR⟩⟩
  · have k0 : w1.cell? ⟨T, 0, none⟩ = some (.int .i64 (most : Int)) := (World.cell?_of_block (w := w) (a := ⟨T, 0, none⟩) (hO.block T HK.out.lt hgT.symm)).trans HK.out.c0
    have k1 : w1.cell? ⟨T, 1, none⟩ = some (.map (some r)) := (World.cell?_of_block (w := w) (a := ⟨T, 1, none⟩) (hO.block T HK.out.lt hgT.symm)).trans HK.out.c1
    have kf : ∀ i, w1.frozen? ⟨T, i, none⟩ = false := fun i => (World.frozen?_of_block (w := w) (a := ⟨T, i, none⟩) (hO.block T HK.out.lt hgT.symm)).trans (HK.out.fz i)
    have f1 := kf 1
    have HR := Lib.hid hR
    have HO := Lib.hid hO
    have HM := Lib.hid hM
    have HX := Lib.hid (And.intro hl (And.intro ht hf))
    clear cR hR hO hM hc0 hl ht hf
    go_wp2_with fail
    have o2 : Only T w1 (w1.setCell ⟨T, 1, none⟩ (.map (some m))) := (Only.refl T w1).setCell 1 _
    have q0 : (w1.setCell ⟨T, 1, none⟩ (.map (some m))).cell? ⟨T, 0, none⟩ = some (.int .i64 (most : Int)) := by go_simp
    have q1 : (w1.setCell ⟨T, 1, none⟩ (.map (some m))).cell? ⟨T, 1, none⟩ = some (.map (some m)) := by go_simp
    have qf : ∀ i, (w1.setCell ⟨T, 1, none⟩ (.map (some m))).frozen? ⟨T, i, none⟩ = false := fun i => by
      have := kf i
      simpa [go_sem] using this
    have hTm : m ≠ T := by have := HK.out.lt; omega
    generalize (w1.setCell ⟨T, 1, none⟩ (.map (some m))) = w2 at *
    have hsz := HO.out.size
    have HT : Tab w2 T m most L := ⟨by have := HK.out.lt; rw [o2.size]; omega, hTm, q0, q1, qf, HM.out.same (o2.block m hTm), HX.out.2.1⟩
    have HR2 : Rd N w2 g s' := HR.out.kept fun k hk _ => o2.block k (by omega)
    have HB : But2 g T w w2 := ⟨o2.os.trans HO.out.os, o2.tape.trans HO.out.tape, o2.output.trans HO.out.output, Nat.le_trans hsz (Nat.le_of_eq o2.size.symm), fun k hk h1 h2 => (o2.block k h2).trans (HO.out.block k hk h1)⟩
    have HF := Lib.hid (And.intro HT (And.intro HR2 HB))
    clear o2 q0 q1 qf HT HR2 HB k0 k1 kf f1 hsz
    go_ret
    exact ⟨HF.out.2.2, .inl ⟨L, s', m, HX.out.1, rfl, hm, HF.out.1, HF.out.2.1, HX.out.2.2⟩⟩
  · have cF := fail_any N g s' w1 hR
    have HK1 : Hid (Tab w1 T r most L0) := Lib.hid (HK.out.other (a := g) (b := g) hO.but hgT.symm hgT.symm hgr.symm hgr.symm)
    have HO := Lib.hid hO
    have HX := Lib.hid hl
    clear cR hR hO hc0 hl
    go_wp2_with fail
    refine cF.mono ?_
    rintro e w2 ⟨rfl, hR2, o2⟩
    have HK2 : Hid (Tab w2 T r most L0) := Lib.hid (HK1.out.other (a := g) (b := g) ⟨o2.os, o2.tape, o2.output, Nat.le_of_eq o2.size.symm, fun k _ h1 _ => o2.block k h1⟩ hgT.symm hgT.symm hgr.symm hgr.symm)
    have HB : Hid (But2 g T w w2) := Lib.hid (HO.out.only o2).but
    have HR2 := Lib.hid hR2
    clear cF hR2 o2
    go_wp2_with fail
    go_ret
    exact ⟨HB.out, .inr ⟨HX.out, rfl, HK2.out, HR2.out⟩⟩
end
end Go.Proofs.YtindkpfmflcibaaGreatDoor
