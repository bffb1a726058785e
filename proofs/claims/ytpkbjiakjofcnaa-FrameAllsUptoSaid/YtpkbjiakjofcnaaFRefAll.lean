/- Contract of the document's own All: the frames of bytes, a row of them, and where they end. -/
import Derived.Test.YtpkbjiakjofcnaaFOneOwn
namespace Go.Proofs.Ytpkbjiakjofcnaa
open Go.RowKit Go.Shelf

/-- The three cells of a frame. -/
abbrev fcells (bs : List (List UInt8)) (f : Nat → Value) (i : Nat) : List Value := [.int .i64 (pos bs i : Int), f i, .int .i64 (pos bs (i + 1) : Int)]
def fsCells (bs : List (List UInt8)) (f : Nat → Value) (n : Nat) : List Value := (List.range n).flatMap (fcells bs f)
theorem fs_succ (bs : List (List UInt8)) (f : Nat → Value) (n : Nat) : fsCells bs f (n + 1) = fsCells bs f n ++ fcells bs f n := by
  unfold fsCells
  rw [List.range_succ, List.flatMap_append]
  simp
theorem fs_len (bs : List (List UInt8)) (f : Nat → Value) : ∀ n, (fsCells bs f n).length = n * 3
  | 0 => rfl
  | n + 1 => by rw [fs_succ, List.length_append, fs_len bs f n]; simp; omega
theorem fs_at (bs : List (List UInt8)) (f : Nat → Value) : ∀ {n i : Nat}, i < n → ∀ k, k < 3 → (fsCells bs f n)[i * 3 + k]? = (fcells bs f i)[k]?
  | 0, i, h, _, _ => by omega
  | n + 1, i, h, k, hk => by
    rw [fs_succ]
    by_cases hi : i < n
    · rw [List.getElem?_append_left (by rw [fs_len]; omega)]
      exact fs_at bs f hi k hk
    · obtain rfl : i = n := by omega
      rw [List.getElem?_append_right (by rw [fs_len]; omega), fs_len]
      congr 1
      omega
theorem fs_same {bs : List (List UInt8)} {f g : Nat → Value} : ∀ {n : Nat}, (∀ i, i < n → f i = g i) → fsCells bs f n = fsCells bs g n
  | 0, _ => rfl
  | n + 1, h => by rw [fs_succ, fs_succ, fs_same (n := n) (fun i hi => h i (by omega)), show fcells bs f n = fcells bs g n by unfold fcells; rw [h n (by omega)]]
theorem rows_tags {w : World} {n₀ n₁ e1 e2 s1 s2 n m : Nat} {v1 v2 : Value} {xs ys : List Value} (r1 : w.ownsRow n₀ e1 s1 v1 n xs) (r2 : w.ownsRow n₁ e2 s2 v2 m ys) (he : e1 ≠ e2) : v1.ownBlock = none ∨ v1.ownBlock ≠ v2.ownBlock := by
  rcases r1.2 with ⟨rfl, _⟩ | ⟨g, cap, cur, rfl, _, hgb, _⟩
  · exact .inl rfl
  · refine .inr fun e' => ?_
    rcases r2.2 with ⟨rfl, _⟩ | ⟨g2, cap2, cur2, rfl, _, hgb2, _⟩
    · cases e'
    · injection e' with e'
      subst e'
      rw [hgb] at hgb2
      injection hgb2 with h
      injection h with _ h
      exact he h
theorem own_keep {B size : Nat} {w w' : World} {e n : Nat} {v : Value} {xs : List Value} (h : w.ownsRow B e size v n xs) (hb : Below w.heap.size w w') : w'.ownsRow B e size v n xs := h.kept (grown_none hb) (Classical.em _)
theorem own_lower {B B' size : Nat} {w : World} {e : TypeId} {n : Nat} {v : Value} {xs : List Value} (h : w.ownsRow B e size v n xs) (hB : B' ≤ B) : w.ownsRow B' e size v n xs := by
  refine ⟨h.1, ?_⟩
  rcases h.2 with h2 | ⟨g, cap, cur, rfl, hb, h3⟩
  · exact .inl h2
  · exact .inr ⟨g, cap, cur, rfl, Nat.le_trans hB hb, h3⟩
theorem below_row {B size : Nat} {w w' : World} {e : TypeId} {n : Nat} {v : Value} {xs : List Value} (h : w.ownsRow B e size v n xs) (hg : w.grownBy w' v.ownBlock) (hB : B ≤ w.heap.size) : Below B w w' := by
  refine (Below.refl _ _).grown hg hB fun k hk => ?_
  rcases h.2 with ⟨rfl, _⟩ | ⟨g, cap, cur, rfl, hbg, _⟩
  · cases hk
  · injection hk with hk; subst hk; exact hbg
theorem cells_three (w : World) (a b c : Value) (t : TypeId) : ∀ j u, [a, b, c][j]? = some u → (w.alloc (.cells #[a, b, c] t)).cell? ((⟨w.heap.size, 0, none⟩ : Addr).add j) = some u := by
  intro j u h
  rw [Go.WideShapes.add_plain, Nat.zero_add, cell_of_row _ _ j _ _ _ (heap_alloc_new w _)]
  simpa using h

/-- A row of n frames, each body in a row of its own. -/
def FsRow (n₀ : Nat) (w : World) (v : Value) (bs : List (List UInt8)) (n : Nat) : Prop := ∃ f : Nat → Value, w.ownsRow n₀ 43 3 v n (fsCells bs f n) ∧ ∀ i, i < n → w.ownsRow n₀ 5 1 (f i) (bodyAt bs i).length (Lib.byteCells (bodyAt bs i))
theorem FsRow.nil (n₀ : Nat) (w : World) (bs : List (List UInt8)) : FsRow n₀ w (.slice none 0 0) bs 0 := ⟨fun _ => undef, World.ownsRow_nil _ _ _ _, fun i h => absurd h (by omega)⟩
theorem FsRow.next {n₀ : Nat} {w w' : World} {v : Value} {bs : List (List UInt8)} {n : Nat} (h : FsRow n₀ w v bs n) (hb : Below w.heap.size w w') : FsRow n₀ w' v bs n := by
  obtain ⟨f, h1, h2⟩ := h
  exact ⟨f, own_keep h1 hb, fun i hi => own_keep (h2 i hi) hb⟩
theorem FsRow.step {n₀ : Nat} {w w1 w4 : World} {v v' vb : Value} {bs : List (List UInt8)} {n : Nat} {f : Nat → Value} {o1 o2 : Obj} (h1 : w.ownsRow n₀ 43 3 v n (fsCells bs f n)) (h2 : ∀ i, i < n → w.ownsRow n₀ 5 1 (f i) (bodyAt bs i).length (Lib.byteCells (bodyAt bs i)))
    (hn₀ : n₀ ≤ w.heap.size) (hb : Below w.heap.size w w1) (hvb : w1.ownsRow w.heap.size 5 1 vb (bodyAt bs n).length (Lib.byteCells (bodyAt bs n)))
    (ho : w4.ownsRow n₀ 43 3 v' (n + 1) (fsCells bs f n ++ [.int .i64 (pos bs n : Int), vb, .int .i64 (pos bs (n + 1) : Int)])) (hg : ((w1.alloc o1).alloc o2).grownBy w4 v.ownBlock) : FsRow n₀ w4 v' bs (n + 1) := by
  have hrow := ((own_keep h1 hb).alloc o1).alloc o2
  refine ⟨fun i => if i = n then vb else f i, ?_, fun i hi => ?_⟩
  · have e : fsCells bs (fun i => if i = n then vb else f i) (n + 1) = fsCells bs f n ++ [.int .i64 (pos bs n : Int), vb, .int .i64 (pos bs (n + 1) : Int)] := by
      rw [fs_succ, fs_same (g := f) (fun i hi => by simp; omega)]
      simp [fcells]
    rw [e]
    exact ho
  · by_cases he : i = n
    · subst he
      have hx := ((own_lower hvb hn₀).alloc o1).alloc o2
      simp only [if_true]
      exact hx.kept hg (rows_tags hx hrow (by decide))
    · simp only [if_neg he]
      have hx := ((own_keep (h2 i (by omega)) hb).alloc o1).alloc o2
      exact hx.kept hg (rows_tags hx hrow (by decide))

theorem fs_round {w wr w1 w4 : World} {v v' vb : Value} {bs : List (List UInt8)} {n : Nat} {q q2 : Nat} {f : Nat → Value} {o2 : Obj} (hq : pos bs n = q) (hq2 : pos bs (n + 1) = q2) (h1 : wr.ownsRow w.heap.size 43 3 v n (fsCells bs f n)) (h2 : ∀ i, i < n → wr.ownsRow w.heap.size 5 1 (f i) (bodyAt bs i).length (Lib.byteCells (bodyAt bs i)))
    (hbl : Below w.heap.size w wr) (hb : Below wr.heap.size wr w1) (hvb : w1.ownsRow wr.heap.size 5 1 vb (bodyAt bs n).length (Lib.byteCells (bodyAt bs n)))
    (ho : w4.ownsRow w.heap.size 43 3 v' (n + 1) (fsCells bs f n ++ [.int .i64 (q : Int), vb, .int .i64 (q2 : Int)])) (hg : ((w1.alloc (.cells #[.int .i64 (q : Int), vb, .int .i64 (q2 : Int)] 43)).alloc o2).grownBy w4 v.ownBlock) :
    FsRow w.heap.size w4 v' bs (n + 1) ∧ Below w.heap.size w w4 ∧ w4.cell? ⟨w1.heap.size, 2, none⟩ = some (.int .i64 (q2 : Int)) := by
  subst hq
  subst hq2
  have hs1 := hbl.size
  have hs2 := hb.size
  obtain ⟨_, _, f2, _, _, _⟩ := fo_cells (heap_alloc_new w1 (.cells #[.int .i64 (pos bs n : Int), vb, .int .i64 (pos bs (n + 1) : Int)] 43))
  refine ⟨FsRow.step h1 h2 hs1 hb hvb ho hg, ?_, ?_⟩
  · exact (((hbl.trans (hb.mono hs1)).alloc (by omega) _).alloc (by simp; omega) o2).trans (below_row (((own_keep h1 hb).alloc _).alloc o2) hg (by simp; omega))
  · refine hg.cell (a := ⟨w1.heap.size, 2, none⟩) ((((Below.refl _ _).alloc (Nat.le_refl _) o2).cell (p := ⟨w1.heap.size, 2, none⟩) (by simp)).trans f2) (fun e => ?_)
    have := (h1.lt _ e.symm).2
    simp only at this
    omega

def RefAllEnd (w : World) (bs : List (List UInt8)) (e : Ending) (w' : World) : Prop := ∃ v, e = .returned (.tuple #[v, .int .i64 (pos bs bs.length : Int)]) ∧ FsRow w.heap.size w' v bs bs.length ∧ Below w.heap.size w w'

set_option maxRecDepth 100000 in
set_option maxHeartbeats 4000000 in
theorem refall_any (A : Option Addr) (L R : List UInt8) (bs : List (List UInt8)) (ca : Nat) (w : World) (hF : Frs L bs R) (hl : L.length ≤ 1048576) (hlc : L.length ≤ ca) (hB : Bs w A L) :
    Calls Try.prog 16 #[.slice A L.length ca] w (RefAllEnd w bs) := by
  obtain ⟨i3, hi3, hz0, hz1, hz2⟩ := info_parts (show (Try.prog.info? 43).map (fun i => (i.zero, i.size, i.bytes)) = some (some (.agg #[.int .i64 0, .slice none 0 0, .int .i64 0]), 3, 40) by kernel_rfl)
  have hmany := pos_many hF.ok bs.length (Nat.le_refl _)
  have hle := hF.le bs.length
  have HF := Lib.hid hF
  have HB := Lib.hid hB
  clear hF hB
  obtain ⟨m, hm⟩ : ∃ m, bs.length = m := ⟨_, rfl⟩
  rw [hm] at hmany hle
  unfold RefAllEnd
  have HM := Lib.hid hm
  rw [hm]
  clear hm
  go_enter Try.func16, Try.ntmps16
  go_wp2_with fail
  go_loopw [4, 5] (fun v i wr => ∃ j : Nat, j ≤ m ∧ i = .int .i64 (pos bs j : Nat) ∧ FsRow w.heap.size wr v bs j ∧ Below w.heap.size w wr) (fun _ i _ => L.length - (intOf i).toNat)
  case atStart => exact ⟨0, Nat.zero_le _, rfl, FsRow.nil _ _ _, Below.refl _ _⟩
  case round =>
    obtain ⟨j, hj, rfl, hrow, hbl⟩ := hrel
    have hpj := HF.out.le j
    by_cases hlt : pos bs j < L.length
    · have c1 := one_own A L ca (pos bs j) wr (by omega) hlc hlt (HB.out.below hbl)
      obtain ⟨f, hr1, hr2⟩ := hrow
      have HR1 := Lib.hid hr1
      have HR2 := Lib.hid hr2
      have HBL := Lib.hid hbl
      have hjj : j < m ∨ j = m := by omega
      clear hr1 hr2 hbl
      obtain ⟨q, hq⟩ : ∃ q, pos bs j = q := ⟨_, rfl⟩
      have HQ := Lib.hid hq
      rw [hq] at c1 hlt hpj ⊢
      clear hq
      go_wp2_with fail
      (with_reducible refine c1.mono ?_)
      rintro e w1 ⟨hb1, h⟩
      have HB1 := Lib.hid hb1
      rcases hjj with hjm | rfl
      · have hy := HF.out.yes (show j < bs.length by rw [HM.out]; exact hjm)
        have hs := pos_succ (show j < bs.length by rw [HM.out]; exact hjm)
        rw [HQ.out] at hy hs
        rcases h with ⟨hn, _⟩ | ⟨b, vb, hb, rfl, hvb⟩
        · rw [hy] at hn; cases hn
        · rw [hy] at hb
          injection hb with hb
          have eb : bodyAt bs j = b := by unfold bodyAt; rw [List.getD_eq_getElem?_getD, List.getElem?_eq_getElem (by rw [HM.out]; exact hjm), hb]; rfl
          rw [hb] at hs
          rw [← hs]
          rw [← eb] at hvb
          have hp6 := pos_six HF.out.ok (show j < bs.length by rw [HM.out]; exact hjm)
          rw [HQ.out] at hp6
          have hle2 := HF.out.le (j + 1)
          obtain ⟨q2, hq2⟩ : ∃ q2, pos bs (j + 1) = q2 := ⟨_, rfl⟩
          have HQ2 := Lib.hid hq2
          rw [hq2] at hp6 hle2 ⊢
          obtain ⟨Ab, cb, rfl, _⟩ := bs_own hvb
          obtain ⟨nb, hnb⟩ : ∃ nb, (bodyAt bs j).length = nb := ⟨_, rfl⟩
          have HVB := Lib.hid (show w1.ownsRow wr.heap.size 5 1 (.slice Ab nb cb) (bodyAt bs j).length (Lib.byteCells (bodyAt bs j)) by rw [← hnb]; exact hvb)
          rw [hnb]
          clear hnb
          clear c1 hy hs hb eb hvb hb1 hq2
          obtain ⟨f0, f1, f2, _, _, _⟩ := fo_cells (heap_alloc_new w1 (.cells #[.int .i64 (q : Int), .slice Ab nb cb, .int .i64 (q2 : Int)] 43))
          go_wp2_with (at_builtin; go_loud (refine wpList_append_own _ rfl (.tmp 20) (.tmp 22) _ rfl w.heap.size 43 i3 _ 3 40 Try.underlying32 hi3 hz0 hz1 hz2 rfl (by decide) _ j (fsCells bs f j) rfl (((own_keep HR1.out HB1.out).alloc _).alloc _) ⟨w1.heap.size + 1, 0, none⟩ 1 1 [.int .i64 (q : Int), .slice Ab nb cb, .int .i64 (q2 : Int)] rfl rfl (by have := cells_three (w1.alloc (.cells #[.int .i64 (q : Int), .slice Ab nb cb, .int .i64 (q2 : Int)] 43)) (.int .i64 (q : Int)) (.slice Ab nb cb) (.int .i64 (q2 : Int)) 43; rw [World.size_alloc] at this; exact this) (by simp [Value.oneCell']) (by unfold maxLen; omega) (by omega) (by have := HBL.out.size; have := HB1.out.size; simp; omega) ?_; intro v' w4 ho4 hg4 _; obtain ⟨hfs, hb4, g2⟩ := fs_round HQ.out HQ2.out HR1.out HR2.out HBL.out HB1.out HVB.out ho4 hg4; have HFS := Lib.hid hfs; have HB4 := Lib.hid hb4; clear ho4 hg4 hb4 hfs f0 f1 f2))
          go_roundw
          case rel => exact ⟨j + 1, hjm, by rw [HQ2.out], HFS.out, HB4.out⟩
          case measure => simp [intOf]; omega
      · rcases h with ⟨_, rfl⟩ | ⟨b, vb, hb, _, _⟩
        · have HX := Lib.hid (FsRow.next ⟨f, HR1.out, HR2.out⟩ HB1.out)
          clear c1
          have HBL2 := Lib.hid (HBL.out.trans (hb1.mono HBL.out.size))
          clear hb1
          go_wp2_with fail
          exact bodyPost_ret (v := .tuple #[u4, .int .i64 (q : Int)]) (by simp [results, Try.results16, go_sem]) rfl ⟨u4, by rw [HQ.out], HX.out.next ((Below.refl _ w1).alloc (Nat.le_refl _) _), ((HBL2.out).alloc (HBL2.out.size) _)⟩
        · have hn := HF.out.no
          rw [HM.out, HQ.out, hb] at hn
          cases hn
    · have hjm : j = m := by
        rcases Nat.lt_or_ge j m with h | h
        · have := HF.out.lt (show j < bs.length by rw [HM.out]; exact h)
          omega
        · omega
      subst hjm
      have HX := Lib.hid hrow
      have HBL := Lib.hid hbl
      obtain ⟨q, hq⟩ : ∃ q, pos bs j = q := ⟨_, rfl⟩
      have HQ := Lib.hid hq
      rw [hq] at hlt hpj ⊢
      clear hrow hbl hq
      go_wp2_with fail
      exact bodyPost_ret (v := .tuple #[u4, .int .i64 (q : Int)]) (by simp [results, Try.results16, go_sem]) rfl ⟨_, by rw [HQ.out], HX.out, HBL.out⟩
end Go.Proofs.Ytpkbjiakjofcnaa
