/- The statement SessionOldest: of as many as there may be, who was used longest ago goes when one more comes; who was used last never does. Conditions: none. -/
import Derived.Test.YtlhloahogfnijaaSsF
import Derived.Test.YtlhloahogfnijaaSsA
import Derived.Test.YtlhloahogfnijaaSsV
import Derived.Test.YtlhloahogfnijaaRegUsV
import Derived.Test.YtlhloahogfnijaaPlc
namespace Go.Proofs.Ytlhloahogfnijaa
open Go.RowKit Go.Maps Go.Sort Go.Shelf
set_option linter.unusedSimpArgs false

section
variable (V0 : Value) (S2 : Value) (k : Nat) (line : List Int) (x : Int) (B : Nat) (w0 : World)
/-- What each operation of the region leaves in which who was used is put behind all others. -/
def LnU (j : Nat) (v : Value) (w : World) : Prop :=
  match j with
  | 0 => v = V0
  | 1 => v = .int .i64 (k : Int)
  | 2 => v = S2
  | 3 => Ss.OwnV w B (line.take k) v
  | 4 => v = V0
  | 5 => v = .int .i64 (k : Int)
  | 6 => v = .int .i64 ((k : Int) + 1)
  | 7 => ∃ ao c, v = .slice ao (line.drop (k + 1)).length c ∧ Is w0 ao (line.drop (k + 1))
  | 8 => Ss.OwnV w B (line.take k ++ line.drop (k + 1)) v
  | 9 => v = .int .i64 x
  | 10 => ∃ g, v = .slice (some ⟨g, 0, none⟩) 1 1 ∧ w.heap[g]? = some (.cells #[.int .i64 x] 3 (0, 0))
  | 11 => Ss.OwnV w B (line.take k ++ line.drop (k + 1) ++ [x]) v
  | 12 => Ss.OwnV w B (line.take k ++ line.drop (k + 1) ++ [x]) v
  | _ => True
theorem LnU.later : ∀ (j : Nat) (v : Value) (w w' : World), Below w.heap.size w w' → LnU V0 S2 k line x B w0 j v w → LnU V0 S2 k line x B w0 j v w'
  | 0, _, _, _, _, h => h
  | 1, _, _, _, _, h => h
  | 2, _, _, _, _, h => h
  | 3, _, _, _, hb, h => Ss.OwnV.later h hb
  | 4, _, _, _, _, h => h
  | 5, _, _, _, _, h => h
  | 6, _, _, _, _, h => h
  | 7, _, _, _, _, h => h
  | 8, _, _, _, hb, h => Ss.OwnV.later h hb
  | 9, _, _, _, _, h => h
  | 10, _, _, _, hb, ⟨g, e, h⟩ => ⟨g, e, (hb.block g (Array.getElem?_eq_some_iff.1 h).1).trans h⟩
  | 11, _, _, _, hb, h => Ss.OwnV.later h hb
  | 12, _, _, _, hb, h => Ss.OwnV.later h hb
  | _ + 13, _, _, _, _, _ => trivial
theorem LnU.upd : ∀ (j : Nat) (v : Value) (w w' : World), Ss.Upd w w' B 3 → j ≠ 3 → j ≠ 8 → j ≠ 11 → j ≠ 12 → LnU V0 S2 k line x B w0 j v w → LnU V0 S2 k line x B w0 j v w'
  | 0, _, _, _, _, _, _, _, _, h => h
  | 1, _, _, _, _, _, _, _, _, h => h
  | 2, _, _, _, _, _, _, _, _, h => h
  | 3, _, _, _, _, h, _, _, _, _ => absurd rfl h
  | 4, _, _, _, _, _, _, _, _, h => h
  | 5, _, _, _, _, _, _, _, _, h => h
  | 6, _, _, _, _, _, _, _, _, h => h
  | 7, _, _, _, _, _, _, _, _, h => h
  | 8, _, _, _, _, _, h, _, _, _ => absurd rfl h
  | 9, _, _, _, _, _, _, _, _, h => h
  | 10, _, _, _, hu, _, _, _, _, ⟨g, e, h⟩ => ⟨g, e, hu.one h⟩
  | 11, _, _, _, _, _, _, h, _, _ => absurd rfl h
  | 12, _, _, _, _, _, _, _, h, _ => absurd rfl h
  | _ + 13, _, _, _, _, _, _, _, _, _ => trivial
end
def useLn (i j : Nat) : Bool := (i == 8 && j == 3) || (i == 11 && j == 3) || (i == 11 && j == 8)
theorem useLn_lt (k j : Nat) (h : useLn k j = true) : k < 13 := by
  unfold useLn at h
  simp only [Bool.or_eq_true, Bool.and_eq_true, beq_iff_eq] at h
  omega
theorem one_is_of {w : World} {g : Nat} {y : Int} {t : TypeId} (h : w.heap[g]? = some (.cells #[.int .i64 y] t (0, 0))) : Is w (some ⟨g, 0, none⟩) [y] := fun _ => ⟨g, 0, rfl, fun q hq => by
  match q, hq with
  | 0, _ => unfold World.cell?; rw [h]; rfl⟩
theorem app_nil_own {w w' : World} {B : Nat} {l : List Int} {v : Value} (h : Ss.AppEnd w B 3 [] ([] ++ l) v w') : Ss.OwnV w' B l v ∧ Below w.heap.size w w' := ⟨⟨h.2.1, h.2.2.1⟩, h.2.2.2 rfl⟩
theorem one_is (w : World) (y : Int) : Is (w.alloc (.cells #[.int .i64 y] 3)) (some ⟨w.heap.size, 0, none⟩) [y] := fun _ => ⟨w.heap.size, 0, rfl, fun q hq => by
  match q, hq with
  | 0, _ => unfold World.cell?; rw [(Go.MapKept.heap_alloc w _).1]; rfl⟩
theorem tdiv_in {z : Int} {n : Nat} (h0 : -9223372036854775808 ≤ z) (h1 : z ≤ 9223372036854775807) : -9223372036854775808 ≤ z.tdiv (n : Int) ∧ z.tdiv (n : Int) ≤ 9223372036854775807 := by
  have key : ∀ y : Int, 0 ≤ y → 0 ≤ y.tdiv (n : Int) ∧ y.tdiv (n : Int) ≤ y := fun y hy => ⟨Int.tdiv_nonneg hy (by omega), Int.tdiv_le_self _ hy⟩
  by_cases hz : 0 ≤ z
  · have := key z hz; omega
  · have := key (-z) (by omega)
    rw [Int.neg_tdiv] at this
    omega
theorem OwnV_is {w : World} {B g cap : Nat} {line : List Int} (h : Ss.OwnV w B line (.slice (some ⟨g, 0, none⟩) line.length cap)) (h0 : 0 < line.length) : Is w (some ⟨g, 0, none⟩) line ∧ line.length ≤ cap ∧ B ≤ g ∧ g < w.heap.size := by
  obtain ⟨g', cap', e, h1, h2, h3, h4⟩ := h.slice h0
  injection e with e1 e2 e3
  injection e1 with e1
  injection e1 with e1
  subst e1 e3
  exact ⟨h4, h1, h2, h3⟩
theorem is_cell {w : World} {g : Nat} {line : List Int} (h : Is w (some ⟨g, 0, none⟩) line) {k : Nat} (hk : k < line.length) : w.cell? ⟨g, k, none⟩ = some (.int .i64 line[k]) := by
  obtain ⟨b', o', e', h'⟩ := Ss.is_at h hk
  injection e' with e'
  injection e' with e1 e2
  rw [← e1, ← e2, Nat.zero_add] at h'
  exact h'
theorem OwnV_but {w w' : World} {B a r : Nat} {L : List Int} {v : Value} (h : Ss.OwnV w B L v) (hb : But2 a r w w') (ha : w.heap.size ≤ a) (hr : r < B) : Ss.OwnV w' B L v :=
  ⟨Ss.own_stay h.1 fun k hk => by have := Ss.own_blk h.1 k hk; exact hb.block k this.2 (by omega) (by omega), h.2⟩
theorem Tab.blk {w w' : World} {T r most : Nat} {L : List Se} (h : Tab w T r most L) (hs : w.heap.size ≤ w'.heap.size) (e1 : w'.heap[T]? = w.heap[T]?) (e2 : w'.heap[r]? = w.heap[r]?) : Tab w' T r most L :=
  ⟨Nat.lt_of_lt_of_le h.lt hs, h.ne, (World.cell?_of_block (w := w) (a := ⟨T, 0, none⟩) e1).trans h.c0, (World.cell?_of_block (w := w) (a := ⟨T, 1, none⟩) e1).trans h.c1, fun i => (World.frozen?_of_block (w := w) (a := ⟨T, i, none⟩) e1).trans (h.fz i), h.m.same e2, h.t⟩
theorem Tab.upd {w w' : World} {T r most B : Nat} {e : TypeId} {L : List Se} (h : Tab w T r most L) (hu : Ss.Upd w w' B e) (h1 : T < B) (h2 : r < B) : Tab w' T r most L :=
  h.blk hu.size ((hu.block T h.lt).resolve_right fun h => by omega) ((hu.block r h.m.lt).resolve_right fun h => by omega)
theorem upd_below {w0 w w' : World} {B : Nat} {e : TypeId} (h : Ss.Upd w w' B e) (hb : Below w0.heap.size w0 w) (hB : w0.heap.size ≤ B) : Below w0.heap.size w0 w' :=
  ⟨h.os.trans hb.os, h.tape.trans hb.tape, h.output.trans hb.output, Nat.le_trans hb.size h.size, fun k hk => by
    rcases h.block k (Nat.lt_of_lt_of_le hk hb.size) with h' | ⟨h', -⟩
    · exact h'.trans (hb.block k hk)
    · omega⟩
set_option maxHeartbeats 8000000 in
set_option maxRecDepth 100000 in
theorem sessionoldest_walk (x : Int) (A : Option Addr) (Z : List Int) (c : Nat) (w : World) (hlo : -9223372036854775808 ≤ x) (hhi : x ≤ 9223372036854775807) (_hc : Z.length ≤ c) (hcm : c ≤ 17592186044416) (hZ : Is w A Z) (hN : ∀ z ∈ Z, -9223372036854775808 ≤ z ∧ z ≤ 9223372036854775807) (_hA : A = none → c = 0) :
    Calls Try.prog 3 #[.int .i64 x, .slice A Z.length c] w fun e w' => e = .returned (.bool true) ∧ Below w.heap.size w w' := by
  obtain ⟨p, hp, hpl⟩ := place_n x 12 hlo hhi (by decide) (by decide)
  have hpl' : ∀ W, Calls Try.prog 4 #[.int .i64 x, .int .i64 12] W fun e w' => e = .returned (.int .i64 (p : Int)) ∧ W = w' := hpl
  obtain ⟨n, hn⟩ : ∃ n : Nat, n = p + 1 := ⟨_, rfl⟩
  have EN := Lib.hid (show 1 + (p : Int) = (n : Int) by omega)
  have HZ := Lib.hid hZ
  have HZI := Lib.hid hN
  obtain ⟨M, hM⟩ : ∃ M, M = min Z.length 40 := ⟨_, rfl⟩
  have HM := Lib.hid hM
  have hzl : Z.length ≤ 17592186044416 := by omega
  have c1 := fun W => stnew_any (n : Int) W
  have ec : cutM (n : Int) = n := by unfold cutM; omega
  simp only [ec] at c1
  have hnb : 1 ≤ n ∧ n ≤ 12 := by omega
  obtain ⟨i0, hi, hi0, hi1, hi2⟩ := info_parts Ss.info_int
  clear hZ hN hM hpl ec hn
  go_enter Try.func3, Try.ntmps3
  go_wp2_with fail
  refine (hpl' _).mono ?_
  rintro e w0 ⟨rfl, rfl⟩
  clear hpl'
  go_wp2_with fail
  rw [EN.out]
  refine (c1 _).mono ?_
  rintro e w1 ⟨T, r, rfl, H1, hTw, hrw, hb1⟩
  have HB1 := Lib.hid hb1
  have HT1 := Lib.hid H1
  obtain ⟨B, hB⟩ : ∃ B, w1.heap.size = B := ⟨_, rfl⟩
  have hwB : w.heap.size ≤ B := by have := hb1.size; omega
  have HTB := Lib.hid (show T < B by have := H1.lt; omega)
  have HRB := Lib.hid (show r < B by have := H1.m.lt; omega)
  have HSB := Lib.hid (show B ≤ w1.heap.size by omega)
  have HO1 : Hid (Ss.OwnV w1 B [] (.slice none 0 0)) := Lib.hid ⟨World.ownsRow_nil _ _ _ _, fun _ => rfl⟩
  clear hb1 c1 H1 hB
  go_wp2_with fail
  go_loopg [7, 8] (n) (fun m s7 s8 wr => ∃ (j : Nat) (line : List Int) (L : List Se), j + m = n ∧ s8 = .int .i64 ((j : Int) + 1) ∧ Hid (OldI (j : Int) line L) ∧ line.length = j ∧ Hid (Tab wr T r n L) ∧ Hid (Ss.OwnV wr B line s7) ∧ Hid (B ≤ wr.heap.size) ∧ Hid (Below w.heap.size w wr))
  case atStart => exact ⟨0, [], [], by omega, rfl, Lib.hid .start, rfl, HT1, HO1, HSB, HB1⟩
  case round =>
    obtain ⟨j, line, L, hjm, rfl, HI, hll, HK, HO, HS, HW⟩ := hrel
    have HJM := Lib.hid hjm
    clear HT1 HO1 HB1
    by_cases hj : j < n
    · have hjz : (j : Int) + 1 ≤ (n : Int) := by omega
      have hLl : L.length = j := by rw [HI.out.len, hll]
      have hmo := HI.out.more (most := n) (by omega) (by omega) (by omega)
      have co := stopen_any T r n L ((j : Int) + 1) wr HK.out
      obtain ⟨h1, h2⟩ := hmo
      rw [h1] at co
      dsimp only at co
      have HI2 := Lib.hid h2
      have HL := Lib.hid hll
      clear hjm h1 h2 hLl hll
      go_wp2_with fail
      refine co.mono ?_
      rintro e w2 ⟨rfl, H2, B2⟩
      have hb2 := B2.low (B := w.heap.size) (.inr HW.out.size) hrw HW.out.size
      have HB2 := Lib.hid (HW.out.trans hb2)
      have HO2 := Lib.hid (OwnV_but HO.out B2 (Nat.le_refl _) HRB.out)
      have HT2 := Lib.hid H2
      have HS2 := Lib.hid (Nat.le_trans HS.out B2.size)
      clear co B2 hb2 H2 HK HO HS
      have b3 := Ss.below_alloc w2 (.cells #[.int .i64 ((j : Int) + 1)] 3)
      have o3 := HO2.out.later b3
      have i3 : Is (w2.alloc (.cells #[.int .i64 ((j : Int) + 1)] 3)) (some ⟨w2.heap.size, 0, none⟩) [(j : Int) + 1] := fun _ => ⟨w2.heap.size, 0, rfl, fun q hq => by
        match q, hq with
        | 0, _ => unfold World.cell?; rw [(Go.MapKept.heap_alloc w2 _).1]; rfl⟩
      have hs3 : B ≤ (w2.alloc (.cells #[.int .i64 ((j : Int) + 1)] 3)).heap.size := Nat.le_trans HS2.out b3.size
      go_wp2_with (at_builtin; refine Ss.wpList_app_src rfl _ _ 22 3 rfl i0 Try.underlying22 hi hi0 hi1 hi2 line [(j : Int) + 1] (by have := HL.out; simp; omega) B hs3 _ o3.1 o3.2 rfl _ _ _ rfl rfl i3 ?_)
      rintro v4 w4 ⟨u4, o4, n4, -⟩
      have HT4 := Lib.hid ((HT2.out.later b3).upd u4 HTB.out HRB.out)
      have HO4 : Hid (Ss.OwnV w4 B (line ++ [(j : Int) + 1]) v4) := Lib.hid ⟨o4, n4⟩
      have HS4 := Lib.hid (Nat.le_trans hs3 u4.size)
      have HB4 := Lib.hid (upd_below u4 (HB2.out.trans (b3.mono HB2.out.size)) hwB)
      clear u4 o4 n4 b3 o3 i3 hs3
      go_wp2_with fail
      go_roundg (n - (j + 1))
      case measure => have := HJM.out; omega
      case rel => exact ⟨j + 1, _, _, by have := HJM.out; omega, by go_num, by rw [Int.natCast_add]; exact HI2, by have := HL.out; simp; omega, HT4, HO4, HS4, HB4⟩
    · have hjn : j = n := by omega
      have hjz : ¬ (j : Int) + 1 ≤ (n : Int) := by omega
      have HI' : Hid (OldI ((n : Int) + (0 : Nat)) line L) := Lib.hid (by rw [← hjn]; simpa using HI.out)
      have HLN := Lib.hid (hll.trans hjn)
      clear hj hjn HI hll HJM hjm
      go_wp2_with fail
      go_loopg [7, 11, 12] (M) (fun m s7 s11 s12 wr => ∃ (q : Nat) (line : List Int) (L : List Se), q + m = M ∧ s12 = .int .i64 (q : Int) ∧ s11 = .int .i64 ((n : Int) + (q : Int)) ∧ Hid (OldI ((n : Int) + (q : Int)) line L) ∧ line.length = n ∧ Hid (Tab wr T r n L) ∧ Hid (Ss.OwnV wr B line s7) ∧ Hid (B ≤ wr.heap.size) ∧ Hid (Below w.heap.size w wr))
      case atStart => exact ⟨0, line, L, by omega, rfl, by simp, HI', HLN.out, HK, HO, HS, HW⟩
      case round =>
        clear HI' HLN HK HO HS HW hjz
        obtain ⟨q, line, L, hqm, rfl, rfl, HI, hll, HK, HO, HS, HW⟩ := hrel
        have HQM := Lib.hid hqm
        have HLN := Lib.hid hll
        by_cases hq : q < M
        · have hql : q < Z.length := by have := HM.out; omega
          have hqz : (q : Int) < (Z.length : Int) := by omega
          have hq4 : (q : Int) < 40 := by have := HM.out; omega
          obtain ⟨b, off, rfl, hcz⟩ := Ss.is_at (HZ.out.below HW.out) hql
          have hzb := HZI.out _ (List.getElem_mem hql)
          generalize Z[q] = z at hcz hzb
          obtain ⟨k, hk, hpk⟩ := place_n z n hzb.1 hzb.2 (by omega) (by omega)
          obtain ⟨g, cap, rfl, hcap, hBg, hgl, hIs⟩ := HO.out.slice (by omega)
          have hkl : k < line.length := by omega
          have hkz : (k : Int) < (n : Int) := by omega
          have hck : wr.cell? ⟨g, k, none⟩ = some (.int .i64 line[k]) := by
            obtain ⟨b', o', e', h'⟩ := Ss.is_at hIs hkl
            injection e' with e'
            injection e' with e1 e2
            rw [← e1, ← e2, Nat.zero_add] at h'
            exact h'
          have hc0 : wr.cell? ⟨g, 0, none⟩ = some (.int .i64 (line[0]'(by omega))) := by
            obtain ⟨b', o', e', h'⟩ := Ss.is_at hIs (k := 0) (by omega)
            injection e' with e'
            injection e' with e1 e2
            rw [← e1, ← e2, Nat.zero_add] at h'
            exact h'
          have hl0 : 0 < line.length := by omega
          have hn0z : (0 : Int) < (n : Int) := by omega
          rw [hll]
          obtain ⟨id, hid⟩ : ∃ id, line[k] = id := ⟨_, rfl⟩
          obtain ⟨fs, hfs⟩ : ∃ fs, line[0]'(by omega) = fs := ⟨_, rfl⟩
          rw [hid] at hck
          rw [hfs] at hc0
          have HID := Lib.hid hid
          have HFS : Hid (∃ rest, line = fs :: rest) := Lib.hid (by
            cases hline : line with
            | nil => rw [hline] at hl0; simp at hl0
            | cons a rest => exact ⟨rest, by rw [← hfs]; simp [hline]⟩)
          have HKL := Lib.hid hkl
          have HIS := Lib.hid hIs
          have hov : (n : Int) + (q : Int) + 1 ≤ 9223372036854775807 := by omega
          have hn0 : ¬ (n : Int) = 0 := by omega
          have HCAP := Lib.hid hcap
          clear hid hfs hqm hIs hcap
          clear hll
          go_wp2_with fail
          refine (hpk _).mono ?_
          rintro e w2 ⟨rfl, rfl⟩
          clear hpk
          go_wp2_with fail
          obtain ⟨u, hu, hpu⟩ := place_n (z.tdiv (n : Int)) 4 (tdiv_in hzb.1 hzb.2).1 (tdiv_in hzb.1 hzb.2).2 (by decide) (by decide)
          have hpu' : ∀ W, Calls Try.prog 4 #[.int .i64 (z.tdiv (n : Int)), .int .i64 4] W fun e w' => e = .returned (.int .i64 (u : Int)) ∧ W = w' := hpu
          clear hpu
          refine (hpu' _).mono ?_
          rintro e w2 ⟨rfl, rfl⟩
          clear hpu' hcz hck hc0
          obtain ⟨rest, hlr⟩ := HFS.out
          have HLR := Lib.hid hlr
          have hLl : L.length = n := by rw [HI.out.len]; exact HLN.out
          have hff : (fs != fs) = false := by simp
          by_cases hu0 : u = 0
          · subst hu0
            have hI := HI.out
            rw [hlr] at hI
            obtain ⟨h1, h2⟩ := hI.next HK.out.t.up hLl (by omega) (by omega)
            have co := stopen_any T r n L ((n : Int) + (q : Int) + 1) wr HK.out
            rw [h1] at co
            dsimp only at co
            have HI2 := Lib.hid h2
            clear h1 h2 hI hLl hlr
            go_wp2_with fail
            refine co.mono ?_
            rintro e w3 ⟨rfl, H3, B3⟩
            have HO3 := Lib.hid (OwnV_but HO.out B3 (Nat.le_refl _) HRB.out)
            have HB3 := Lib.hid (HW.out.trans (B3.low (B := w.heap.size) (.inr HW.out.size) hrw HW.out.size))
            have HT3 := Lib.hid H3
            have HS3 := Lib.hid (Nat.le_trans HS.out B3.size)
            have hlp : 0 < line.length := by have := HLN.out; omega
            obtain ⟨hI3, hcap3, -, -⟩ := OwnV_is HO3.out hlp
            have HIS3 := Lib.hid hI3
            have hc3 := is_cell hI3 (k := 0) hlp
            rw [show line[0]'hlp = fs by simp [HLR.out]] at hc3
            clear co B3 H3 hI3 HK HO HS
            have h1c : 1 ≤ cap := by omega
            have h1n : (1 : Int) ≤ (n : Int) := by omega
            have hnc : (n : Int) ≤ (cap : Int) := by have := HLN.out; omega
            have h1cz : (1 : Int) ≤ (cap : Int) := by omega
            have HCAP3 := Lib.hid hcap3
            clear hcap3 hlp
            have hE1 : Is w3 (if cap = 1 then some ⟨g, 0, none⟩ else some ⟨g, 1, none⟩) (line.drop 1) := by
              have := Ss.is_drop HIS3.out 1 cap HCAP3.out
              simpa [Addr.add] using this
            have hm1 : n - 1 = (line.drop 1).length := by rw [List.length_drop, HLN.out]
            obtain ⟨ao, hao⟩ : ∃ ao : Option Addr, (if cap = 1 then some (⟨g, 0, none⟩ : Addr) else some ⟨g, 1, none⟩) = ao := ⟨_, rfl⟩
            rw [hao] at hE1
            have HE1 := Lib.hid hE1
            have HAO := Lib.hid hao
            clear hao
            have HM1 := Lib.hid hm1
            have hl1 : ([] : List Int).length + (line.drop 1).length ≤ 1000 := by rw [← hm1]; simp; omega
            have HL1 := Lib.hid hl1
            have HL2 := Lib.hid (show (line.drop 1).length + [(n : Int) + (q : Int) + 1].length ≤ 1000 by have := HLN.out; simp; omega)
            clear hE1 hm1 hl1
            go_upto_region 24 with fail
            refine wp_region_lit ?_
            refine wpList_plain rfl fun K hK => ?_
            go_simp
            refine hK _ _ ?_
            clear hK K
            refine wpList_plain rfl fun K hK => ?_
            go_simp
            refine hK _ _ ?_
            clear hK K
            rw [HAO.out]
            clear hff hov hn0 h1c h1n hnc h1cz
            refine Ss.wpList_app_src rfl _ _ 22 3 rfl i0 Try.underlying22 hi hi0 hi1 hi2 [] (line.drop 1) HL1.out B HS3.out (.slice none 0 0) (World.ownsRow_nil _ _ _ _) (fun _ => rfl) rfl ao (n - 1) (cap - 1) rfl HM1.out HE1.out ?_
            rintro v4 w4 h4
            obtain ⟨o4, hb4⟩ := app_nil_own h4
            have b5 := Ss.below_alloc w4 (.cells #[.int .i64 ((n : Int) + (q : Int) + 1)] 3)
            have O4 := Lib.hid (o4.later b5)
            have T4 := Lib.hid ((HT3.out.later hb4).later b5)
            have S4 := Lib.hid (Nat.le_trans HS3.out (Nat.le_trans hb4.size b5.size))
            have hbw := HB3.out.trans (hb4.mono HB3.out.size)
            have W4 := Lib.hid (hbw.trans (b5.mono hbw.size))
            have I4 := Lib.hid (one_is w4 ((n : Int) + (q : Int) + 1))
            clear h4 o4 hb4 b5 hbw hc3 HT3 HS3 HB3 HE1 HIS3
            refine wpList_plain rfl fun K hK => ?_
            go_simp
            refine hK _ _ ?_
            clear hK K
            refine wpList_plain rfl fun K hK => ?_
            go_simp
            refine hK _ _ ?_
            clear hK K
            refine Ss.wpList_app_src rfl _ _ 22 3 rfl i0 Try.underlying22 hi hi0 hi1 hi2 (line.drop 1) [(n : Int) + (q : Int) + 1] HL2.out B S4.out v4 O4.out.1 O4.out.2 rfl (some ⟨w4.heap.size, 0, none⟩) 1 1 rfl rfl I4.out ?_
            rintro v6 w6 ⟨u6, o6, n6, -⟩
            have O6 : Hid (Ss.OwnV w6 B (line.drop 1 ++ [(n : Int) + (q : Int) + 1]) v6) := Lib.hid ⟨o6, n6⟩
            have T6 := Lib.hid (T4.out.upd u6 HTB.out HRB.out)
            have S6 := Lib.hid (Nat.le_trans S4.out u6.size)
            have W6 := Lib.hid (upd_below u6 W4.out hwB)
            clear u6 o6 n6 O4 T4 S4 W4 I4
            go_wp2_with fail
            go_roundg (M - (q + 1))
            case measure => have := HQM.out; omega
            case rel => exact ⟨q + 1, _, _, by have := HQM.out; omega, by go_num, congrArg (Value.int .i64) (by omega), by rw [show ((n : Int) + ((q + 1 : Nat) : Int)) = (n : Int) + (q : Int) + 1 by omega]; exact HI2, by have := HLN.out; have := HLR.out; subst this; simp at *; omega, T6, by rw [HLR.out] at O6; exact O6, S6, W6⟩
          · have huz : ((u : Int) == 0) = false := by simp [hu0]
            have huz2 : ¬ (u : Int) = 0 := by omega
            obtain ⟨h1, h2⟩ := HI.out.use (by omega) hkl
            rw [HID.out] at h1 h2
            have cu := stuse_any T r n L id ((n : Int) + (q : Int) + 1) wr HK.out
            rw [h1] at cu
            have HI2 := Lib.hid h2
            have HKL := Lib.hid hkl
            clear h1 h2 hLl hlr
            go_wp2_with fail
            refine cu.mono ?_
            rintro e w3 ⟨rfl, H3, B3⟩
            have HO3 := Lib.hid (OwnV_but HO.out B3 (Nat.le_refl _) HRB.out)
            have HB3 := Lib.hid (HW.out.trans (B3.low (B := w.heap.size) (.inr HW.out.size) hrw HW.out.size))
            have HT3 := Lib.hid H3
            have HS3 := Lib.hid (Nat.le_trans HS.out B3.size)
            have hlp : 0 < line.length := by have := HLN.out; omega
            obtain ⟨hI3, hcap3, -, -⟩ := OwnV_is HO3.out hlp
            have HIS3 := Lib.hid hI3
            have HCAP3 := Lib.hid hcap3
            have hkc : (k : Int) ≤ (cap : Int) := by have := HLN.out; omega
            have hk1n : (k : Int) + 1 ≤ (n : Int) := by have := HLN.out; omega
            have hk1c : (k : Int) + 1 ≤ (cap : Int) := by have := HLN.out; omega
            clear cu B3 H3 hI3 HK HO HS hcap3 hlp
            have hle1 : (line.take k).length + (line.drop (k + 1)).length ≤ 1000 := by rw [List.length_take, List.length_drop]; have := HLN.out; omega
            have hle2 : (line.take k ++ line.drop (k + 1)).length + [id].length ≤ 1000 := by rw [List.length_append, List.length_take, List.length_drop]; have := HLN.out; simp; omega
            have hle0 : ([] : List Int).length + (line.take k).length ≤ 1000 := by rw [List.length_take]; have := HLN.out; simp; omega
            have htk : (line.take k).length = k := by rw [List.length_take]; omega
            have HD7 : Hid (n - (k + 1) = (line.drop (k + 1)).length ∧ Is w3 (if cap = k + 1 then some ⟨g, 0, none⟩ else some ⟨g, k + 1, none⟩) (line.drop (k + 1))) := Lib.hid (by
              refine ⟨by rw [List.length_drop, HLN.out], ?_⟩
              have := Ss.is_drop HIS3.out (k + 1) cap HCAP3.out
              simpa [Addr.add] using this)
            have HLE := Lib.hid (And.intro hle0 (And.intro hle1 (And.intro hle2 htk)))
            clear hle1 hle2 hle0 htk
            go_upto_region 27 with fail
            refine wp_region_usv 122 [102, 103, 104, 105, 106, 107, 108, 109, 110, 111, 112, 113, 7] useLn (LnU (.slice (some ⟨g, 0, none⟩) n cap) (.slice (some ⟨g, 0, none⟩) k cap) k line id w3.heap.size w3) (by kernel_rfl) rfl (by kernel_rfl) useLn_lt ?step ?done
            case step =>
              refine ⟨?_, ?_, ?_, ?_, ?_, ?_, ?_, ?_, ?_, ?_, ?_, ?_, ?_, trivial⟩
              · intro a wq hF hV hB hdep K hK
                have e7 : a.tmps[7]?.getD undef = .slice (some ⟨g, 0, none⟩) n cap := (slot_opt a 7).trans (hV 12 (by decide) (by kernel_rfl))
                go_simp
                exact hK.out _ _ hB (fun _ _ _ _ _ h => h) rfl
              · intro a wq hF hV hB hdep K hK
                have e13 : a.tmps[13]?.getD undef = .int .i64 (k : Int) := hF.at 13 (by decide)
                go_simp
                exact hK.out _ _ hB (fun _ _ _ _ _ h => h) rfl
              · intro a wq hF hV hB hdep K hK
                have e102 : a.tmps[102]?.getD undef = .slice (some ⟨g, 0, none⟩) n cap := (slot_opt a 102).trans (hdep 0 (by kernel_rfl))
                have e103 : a.tmps[103]?.getD undef = .int .i64 (k : Int) := (slot_opt a 103).trans (hdep 1 (by kernel_rfl))
                go_simp
                exact hK.out _ _ hB (fun _ _ _ _ _ h => h) rfl
              · intro a wq hF hV hB hdep K hK
                exact Ss.wp_app_src (.const (.slice none 0 0)) (.tmp 104) 22 3 rfl i0 Try.underlying22 hi hi0 hi1 hi2 [] (line.take k) HLE.out.1 w3.heap.size hB.size (.slice none 0 0) (World.ownsRow_nil _ _ _ _) (fun _ => rfl) rfl (some ⟨g, 0, none⟩) cap (Ss.is_take (HIS3.out.below hB) k) (by
                    have h := hdep 2 (by kernel_rfl)
                    rw [HLE.out.2.2.2]; exact h) fun v' w' h => by
                  obtain ⟨o4, hb4⟩ := app_nil_own h
                  exact hK.out v' w' (hB.trans (hb4.mono hB.size)) (fun j u _ _ _ h => LnU.later _ _ _ _ _ _ _ j u _ _ hb4 h) o4
              · intro a wq hF hV hB hdep K hK
                have e7 : a.tmps[7]?.getD undef = .slice (some ⟨g, 0, none⟩) n cap := (slot_opt a 7).trans (hV 12 (by decide) (by kernel_rfl))
                go_simp
                exact hK.out _ _ hB (fun _ _ _ _ _ h => h) rfl
              · intro a wq hF hV hB hdep K hK
                have e13 : a.tmps[13]?.getD undef = .int .i64 (k : Int) := hF.at 13 (by decide)
                go_simp
                exact hK.out _ _ hB (fun _ _ _ _ _ h => h) rfl
              · intro a wq hF hV hB hdep K hK
                have e107 : a.tmps[107]?.getD undef = .int .i64 (k : Int) := (slot_opt a 107).trans (hdep 5 (by kernel_rfl))
                have hwr : IntKind.i64.wrap ((k : Int) + 1) = (k : Int) + 1 := by rw [IntKind.wrap_i64]; omega
                go_simp
                exact hK.out _ _ hB (fun _ _ _ _ _ h => h) rfl
              · intro a wq hF hV hB hdep K hK
                have e106 : a.tmps[106]?.getD undef = .slice (some ⟨g, 0, none⟩) n cap := (slot_opt a 106).trans (hdep 4 (by kernel_rfl))
                have hk0 : (0 : Int) ≤ (k : Int) + 1 := by omega
                have e108 : a.tmps[108]?.getD undef = .int .i64 ((k : Int) + 1) := (slot_opt a 108).trans (hdep 6 (by kernel_rfl))
                go_simp
                exact hK.out _ _ hB (fun _ _ _ _ _ h => h) ⟨_, _, congrArg (fun m => Value.slice _ m _) HD7.out.1, HD7.out.2⟩
              · intro a wq hF hV hB hdep K hK
                obtain ⟨o3, n3⟩ := hdep 3 (by kernel_rfl)
                obtain ⟨ao, c', h109, hI109⟩ := hdep 7 (by kernel_rfl)
                exact Ss.wp_app_src (.tmp 105) (.tmp 109) 22 3 rfl i0 Try.underlying22 hi hi0 hi1 hi2 (line.take k) (line.drop (k + 1)) HLE.out.2.1 w3.heap.size hB.size _ o3 n3 rfl ao c' (hI109.below hB) h109 fun v' w' h => by
                  refine hK.out v' w' (upd_below h.1 hB (Nat.le_refl _)) (fun j u h1 h2 h3 hj => LnU.upd _ _ _ _ _ _ _ j u _ _ h.1 (fun e => ?_) h1 (fun e => ?_) (fun e => ?_) hj) ⟨h.2.1, h.2.2.1⟩
                  · subst e; exact absurd h2 (by decide)
                  · subst e; exact absurd h3 (by rw [show aftV _ 11 8 = true by kernel_rfl]; decide)
                  · subst e; exact absurd h3 (by rw [show aftV _ 12 8 = true by kernel_rfl]; decide)
              · intro a wq hF hV hB hdep K hK
                have e14 : a.tmps[14]?.getD undef = .int .i64 id := hF.at 14 (by decide)
                go_simp
                exact hK.out _ _ hB (fun _ _ _ _ _ h => h) rfl
              · intro a wq hF hV hB hdep K hK
                have e111 : a.tmps[111]?.getD undef = .int .i64 id := (slot_opt a 111).trans (hdep 9 (by kernel_rfl))
                have bq := Ss.below_alloc wq (.cells #[.int .i64 id] 3)
                go_simp
                exact hK.out _ _ (hB.trans (bq.mono hB.size)) (fun j u _ _ _ h => LnU.later _ _ _ _ _ _ _ j u _ _ bq h) ⟨wq.heap.size, rfl, (Go.MapKept.heap_alloc wq _).1⟩
              · intro a wq hF hV hB hdep K hK
                obtain ⟨o8, n8⟩ := hdep 8 (by kernel_rfl)
                obtain ⟨g2, h112, hg2⟩ := hdep 10 (by kernel_rfl)
                exact Ss.wp_app_src (.tmp 110) (.tmp 112) 22 3 rfl i0 Try.underlying22 hi hi0 hi1 hi2 (line.take k ++ line.drop (k + 1)) [id] HLE.out.2.2.1 w3.heap.size hB.size _ o8 n8 rfl (some ⟨g2, 0, none⟩) 1 (one_is_of hg2) h112 fun v' w' h => by
                  refine hK.out v' w' (upd_below h.1 hB (Nat.le_refl _)) (fun j u h1 h2 h3 hj => LnU.upd _ _ _ _ _ _ _ j u _ _ h.1 (fun e => ?_) (fun e => ?_) h1 (fun e => ?_) hj) ⟨h.2.1, h.2.2.1⟩
                  · subst e; exact absurd h2 (by decide)
                  · subst e; exact absurd h2 (by decide)
                  · subst e; exact absurd h3 (by rw [show aftV _ 12 11 = true by kernel_rfl]; decide)
              · intro a wq hF hV hB hdep K hK
                have h11 : Ss.OwnV wq w3.heap.size (line.take k ++ line.drop (k + 1) ++ [id]) (slot a 113) := hdep 11 (by kernel_rfl)
                obtain ⟨v7, hv7⟩ : ∃ v, slot a 113 = v := ⟨_, rfl⟩
                have e113 : a.tmps[113]?.getD undef = v7 := (slot_opt a 113).trans hv7
                rw [hv7] at h11
                go_simp
                exact hK.out _ _ hB (fun _ _ _ _ _ h => h) h11
            case done =>
              intro a w6 hF hB hI
              have h7 : Ss.OwnV w6 w3.heap.size (line.take k ++ line.drop (k + 1) ++ [id]) (slot a 7) := hI 12 (by decide) (fun q => by cases hu : useLn q 12 with | false => rfl | true => unfold useLn at hu; simp at hu)
              have hl := hF.lit
              obtain ⟨σ, hσ⟩ : ∃ σ, slot a = σ := ⟨_, rfl⟩
              rw [hσ] at hl h7
              obtain ⟨v7, hv7⟩ : ∃ v, σ 7 = v := ⟨_, rfl⟩
              rw [hv7] at h7
              clear hσ hI hF
              subst hl
              simp only [lay, List.foldl_cons, List.foldl_nil, List.setIfInBounds_toArray, List.set_cons_zero, List.set_cons_succ, hv7]
              have O6 : Hid (Ss.OwnV w6 B (line.take k ++ line.drop (k + 1) ++ [id]) v7) := Lib.hid ⟨Ss.own_low h7.1 HS3.out, h7.2⟩
              have T6 := Lib.hid (HT3.out.later hB)
              have S6 := Lib.hid (Nat.le_trans HS3.out hB.size)
              have W6 := Lib.hid (HB3.out.trans (hB.mono HB3.out.size))
              have HLL := Lib.hid (show (line.take k ++ line.drop (k + 1) ++ [id]).length = n by
                rw [List.length_append, List.length_append, List.length_take, List.length_drop]
                have := HLN.out
                simp; omega)
              clear hB h7 hv7 hov hn0 hkc hk1n hk1c huz2 hn0z hkz
              go_wp2_with fail
              go_roundg (M - (q + 1))
              case measure => have := HQM.out; omega
              case rel => exact ⟨q + 1, _, _, by have := HQM.out; omega, by go_num, congrArg (Value.int .i64) (by omega), by rw [show ((n : Int) + ((q + 1 : Nat) : Int)) = (n : Int) + (q : Int) + 1 by omega]; exact HI2, HLL.out, T6, O6, S6, W6⟩
        · have hh : q = Z.length ∨ (q = 40 ∧ (40 : Int) < (Z.length : Int)) := by have := HM.out; omega
          have ci := stids_any T r n L wr HK.out
          have hlen : (L.map Se.id).length = n := by rw [List.length_map, HI.out.len]; exact hll
          rw [hlen.symm] at hnb
          have hnn : ((n : Int) == (n : Int)) = true := by simp
          clear hqm hq HQM hll
          rcases hh with rfl | ⟨rfl, hk6⟩
          all_goals
            go_wp2_with fail
            refine ci.mono ?_
            rintro e w2 ⟨A2, c2, rfl, -, -, -, -, hb2⟩
            have HB2 := Lib.hid (HW.out.trans (hb2.mono HW.out.size))
            have ca := stawake_any w2
            rw [hlen]
            clear hb2 ci
            go_wp2_with fail
            refine ca.mono ?_
            rintro e w6 ⟨rfl, hb6⟩
            go_wp2_with fail
            go_ret
            exact ⟨rfl, HB2.out.trans (hb6.mono HB2.out.size)⟩
open Go.ChangeShapes Go.WideShapes Go.ChangeAt
set_option maxRecDepth 100000 in
theorem sessionoldest_lifted (os : Os) (started : os.Started) (H : Type) (enc : TypeId × Value → H) :
    ReturnsInHanded {} Try.checked os 3 .any (Rows.sessionOldestSpec.pre6 enc Try.prog Try.f3 Rows.sessionOldestRow.domain false) (Rows.sessionOldestSpec.post enc Try.prog Try.f3 false true false false) := by
  refine returnsInHanded_of_change_sized (C := Try.checked) own started (by kernel_rfl) Try.func3
    (ChangeSpec.witness6 (enc := enc) (C := Try.checked) false ⟨#[], #[.int .i64 0, .slice none 0 0], []⟩ 8 (by kernel_rfl) (by kernel_rfl) (by kernel_rfl) (by kernel_rfl)) ?_
  intro W base args ds gs before hval0 hW _ hsz0 _
  have hsz : (DataW.weightsEach Try.prog (Try.f3.params.toList ++ Rows.sessionOldestSpec.plain.varTypes Try.prog) (ds ++ gs)).all (· ≤ reachBytes) = true := hsz0
  have hval : ∀ (j : Nat) t v, Try.f3.params[j]? = some t → args[j]? = some v → Value.okWide Try.prog W .any base t v := hval0
  have hW' := hW
  obtain ⟨p, q, hA0, hV, rfl, _, _⟩ := hW
  have hA : DataW.TrodAll enc Try.prog W 0 (fun _ => true) true Try.f3.params.toList args.toList ds p := hA0
  rw [Try.params3] at hA hval hsz
  obtain ⟨v0, v1, d0, d1, p0, p1, rfl, rfl, rfl, h0, h1⟩ := trodAll_two hA
  obtain ⟨rfl, rfl⟩ := trodVars_none hV
  simp only [List.append_nil] at hW'
  obtain ⟨x0, rfl, rfl, rfl, wx0⟩ := open_int Try.underlying3 (hval 0 3 v0 rfl rfl) h0
  have hlt1 : ∀ x ∈ p1, x.block < W.heap.size := fun x hx => hW'.lt x (by simp [hx])
  have h1k := h1
  obtain ⟨A1, L1, c1, rfl, lc1, cm1, B1, N1, Q1⟩ := open_nums Try.underlying22 Try.underlying3 (by kernel_rfl) (hval 1 22 v1 rfl rfl) h1 (fun elems spare e => by
    subst e
    have := sized_slice hsz (j := 1) (t := 22) (e := 3) rfl rfl Try.underlying22
    rwa [show Try.prog.bytesOf 3 = 8 by kernel_rfl] at this)
  refine (sessionoldest_walk x0 A1 L1 c1 W (bounds_i64 wx0).1 (bounds_i64 wx0).2 lc1 cm1 B1 N1 Q1).mono fun e W' ⟨he, hb⟩ => ?_
  subst he
  exact ⟨_, rfl, _, _, _, [], _, [], hW', trodAll_mk1 (shut_bool Try.underlying4 _), trodAll_mk2 (shut_int Try.underlying3 wx0) (Below.trod laidOut (by kernel_rfl) (of_decide_eq_true (by kernel_rfl)) h1k hb hlt1), rfl, hb.frame _, fun h => by cases h⟩

theorem sessionoldest_holds : Rows.SessionOldestSaid :=
  OpenClaim.holds_of_wide 3 Try.f3 rfl rfl rfl rfl rfl rfl rfl ⟨rfl, rfl, rfl, rfl, rfl⟩ rfl rfl rfl rfl rfl (by kernel_rfl) Try.func3 (by kernel_rfl)
    (of_decide_eq_true (by kernel_rfl)) (by unfold Func.isWrapper; first | (rw [if_pos (by decide +kernel)]; kernel_rfl) | (rw [if_neg (by decide +kernel)]; exact ⟨rfl, rfl⟩))
    (fun os started H enc _ => sessionoldest_lifted os started H enc)
end Go.Proofs.Ytlhloahogfnijaa
