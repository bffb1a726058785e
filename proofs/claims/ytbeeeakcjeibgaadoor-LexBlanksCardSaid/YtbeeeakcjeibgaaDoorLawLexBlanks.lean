/- The statement LexBlanks: a text's tokens, written again with blanks between, are the same tokens. Conditions: none but what the card ties (the library's variables hold what their texts lay). -/
import Derived.Test.YtbeeeakcjeibgaaDoorLexN
import Derived.Test.YtbeeeakcjeibgaaDoorVFrame
import Derived.Test.YtbeeeakcjeibgaaDoorArgs
import Derived.Deep.QuietTactic
import Derived.BigQuiet
import Derived.IntWalk
import Derived.Deep.Cut
import Derived.Deep.LoopGhost
import Derived.Laws.PanicsMore
namespace Go.Proofs.YtbeeeakcjeibgaaDoor
open Go.ChangeShapes Go.WideShapes Go.ChangeAt Go.RowKit Go.Lib

/-- The first i tokens are written again, their places are told. -/
def BkAll (ts : List Tk) (i : Nat) (us : List Tk) (ats : List Nat) : Prop := ats.length = i ∧ us.length = min i ts.length ∧ ∀ j t, j < i → ts[j]? = some t → ∃ a, ats[j]? = some a ∧ us[j]? = some ⟨t.k, t.s, t.n, a⟩
def BkAt (ts : List Tk) (i : Nat) (T : List UInt8) (us : List Tk) (ats : List Nat) : Prop := Ready T us ∧ BkAll ts i us ats
def BkMid (ts : List Tk) (i : Nat) (T : List UInt8) (us : List Tk) (ats : List Nat) : Prop := lexL T = .ok us ∧ BkAll ts (i + 1) us ats
theorem BkAt.start (ts : List Tk) : BkAt ts 0 [] [] [] := ⟨Ready.nil, rfl, by simp, fun j t h => absurd h (Nat.not_lt_zero j)⟩
theorem BkAt.tok {ts us : List Tk} {i : Nat} {T G : List UInt8} {ats : List Nat} {t : Tk} (h : BkAt ts i T us ats) (ht : ts[i]? = some t) (hg : lexL G = .ok [⟨t.k, t.s, t.n, 0⟩]) : BkMid ts i (T ++ G) (us ++ [⟨t.k, t.s, t.n, T.length⟩]) (ats ++ [T.length]) := by
  obtain ⟨h1, h2, h3, h4⟩ := h
  have hl := (List.getElem?_eq_some_iff.1 ht).1
  have hu : us.length = i := by rw [h3]; omega
  refine ⟨?_, by rw [List.length_append, h2]; rfl, by rw [List.length_append, List.length_singleton]; omega, fun j v hj hv => ?_⟩
  · have := h1.add hg
    rw [this]
    show Except.ok (us ++ [Tk.sh T.length ⟨t.k, t.s, t.n, 0⟩]) = _
    unfold Tk.sh
    rw [Nat.zero_add]
  · rcases Nat.lt_or_eq_of_le (Nat.le_of_lt_succ hj) with h | h
    · obtain ⟨a, e1, e2⟩ := h4 j v h hv
      exact ⟨a, by rw [List.getElem?_append_left (by omega)]; exact e1, by rw [List.getElem?_append_left (by omega)]; exact e2⟩
    · subst h
      rw [hv] at ht
      injection ht with ht
      subst ht
      exact ⟨T.length, by rw [← h2]; simp, by rw [← hu]; simp⟩
theorem BkAt.fin {ts us : List Tk} {i : Nat} {T : List UInt8} {ats : List Nat} (h : BkAt ts i T us ats) (hi : ts.length ≤ i) : BkMid ts i T us (ats ++ [T.length]) := by
  obtain ⟨h1, h2, h3, h4⟩ := h
  refine ⟨h1.1, by rw [List.length_append, h2]; rfl, by omega, fun j v hj hv => ?_⟩
  have hl := (List.getElem?_eq_some_iff.1 hv).1
  obtain ⟨a, e1, e2⟩ := h4 j v (by omega) hv
  exact ⟨a, by rw [List.getElem?_append_left (by omega)]; exact e1, e2⟩
theorem BkMid.blank {ts us : List Tk} {i : Nat} {T : List UInt8} {ats : List Nat} {c : UInt8} (h : BkMid ts i T us ats) (hc : BlankB c) : BkMid ts i (T ++ [c]) us ats ∧ BkAt ts (i + 1) (T ++ [c]) us ats :=
  ⟨⟨lexL_blank h.1 hc, h.2⟩, Ready.of h.1 hc, h.2⟩
theorem idx_0 (w : World) : (Instr.index 35 (.agg #[.string ⟨#[32]⟩, .string ⟨#[9]⟩, .string ⟨#[10]⟩]) (.int .i64 0)).run Tryd.prog w = .ok (.string ⟨#[32]⟩) w := by
  simp [Instr.index, run_underlying Tryd.underlying35, asIntOf, go_sem, part]
theorem idx_1 (w : World) : (Instr.index 35 (.agg #[.string ⟨#[32]⟩, .string ⟨#[9]⟩, .string ⟨#[10]⟩]) (.int .i64 1)).run Tryd.prog w = .ok (.string ⟨#[9]⟩) w := by
  simp [Instr.index, run_underlying Tryd.underlying35, asIntOf, go_sem, part]
theorem idx_2 (w : World) : (Instr.index 35 (.agg #[.string ⟨#[32]⟩, .string ⟨#[9]⟩, .string ⟨#[10]⟩]) (.int .i64 2)).run Tryd.prog w = .ok (.string ⟨#[10]⟩) w := by
  simp [Instr.index, run_underlying Tryd.underlying35, asIntOf, go_sem, part]
theorem one_news (w : World) (x : Value) (t : TypeId) : ∀ (j : Nat) (u : Value), [x][j]? = some u → (w.alloc (.cells #[x] t)).cell? ((⟨w.heap.size, 0, none⟩ : Addr).add j) = some u := by
  intro j u hj
  have e : (⟨w.heap.size, 0, none⟩ : Addr).add j = ⟨w.heap.size, j, none⟩ := by unfold Addr.add; split <;> simp_all
  rw [e, cells_of_alloc]
  simpa using hj
theorem one_cell (x : Int) : ∀ u ∈ [Value.int .i64 x], u.oneCell' = true := by
  intro u hu
  simp only [List.mem_singleton] at hu
  subst hu; rfl
theorem app_list (a b : ByteArray) : (a ++ b).data.toList = a.data.toList ++ b.data.toList := by simp
theorem app_size (a b : ByteArray) : (a ++ b).size = a.size + b.size := by
  rw [← size_list, app_list, List.length_append, size_list, size_list]
abbrev atC (ats : List Nat) : List Value := ats.map fun (a : Nat) => Value.int .i64 (a : Int)
theorem atC_snoc (ats : List Nat) (a : Nat) : atC ats ++ [.int .i64 (a : Int)] = atC (ats ++ [a]) := by simp [atC]

set_option maxHeartbeats 4000000 in
set_option maxRecDepth 100000 in
theorem lexblanks_walk (s : ByteArray) (A0 : Option Addr) (Z : List Int) (cz : Nat) (w : World) (_ : s.size ≤ 9223372036854775807) (hzc : Z.length ≤ cz) (hzm : cz ≤ 17592186044416) (hZI : Is w A0 Z) (hZb : ∀ z ∈ Z, -9223372036854775808 ≤ z ∧ z ≤ 9223372036854775807) (hE : Env7 w) :
    Calls Tryd.prog 6 #[.string s, .slice A0 Z.length cz] w fun e w' => e = .returned (.bool true) ∧ Below w.heap.size w w' := by
  by_cases hlen : 100 < s.size
  · have hlz : (100 : Int) < (s.size : Int) := by omega
    have hA := awake_any w hE
    clear hlen
    go_enter Tryd.func6, Tryd.ntmps6
    go_wp2_with fail
    refine hA.mono ?_
    rintro e w1 ⟨rfl, b1⟩
    go_wp2
    go_ret
    exact ⟨rfl, b1⟩
  have hlz : ¬ (100 : Int) < (s.size : Int) := by omega
  cases hZa : lexL s.data.toList with
  | error p =>
    have cA := lex_no s p w (by omega) hZa hE
    clear hZa
    go_enter Tryd.func6, Tryd.ntmps6
    go_wp2_with fail
    refine cA.mono ?_
    rintro e w1 ⟨b1, rfl⟩
    have hA := awake_any w1 (hE.later b1)
    clear cA
    go_wp2_with fail
    refine hA.mono ?_
    rintro e w2 ⟨rfl, b2⟩
    go_wp2
    go_ret
    exact ⟨rfl, below_to b1 b2⟩
  | ok ts =>
    obtain ⟨i0, hi, hz0, hz1, hz2⟩ := info_parts (show (Tryd.prog.info? 3).map (fun i => (i.zero, i.size, i.bytes)) = some (some (.int .i64 0), 1, 8) by kernel_rfl)
    have cA := lex_yes s ts w (by omega) hZa hE
    have hfew := lex_few hZa
    have HNX := Lib.hid (fun i t (h : ts[i]? = some t) => tk_next hZa h)
    have HTE := Lib.hid (tk_end_at ts s.size)
    have HTA := Lib.hid (fun i t (h : ts[i]? = some t) => tk_at ts s.size i t h)
    obtain ⟨n, hn⟩ : ∃ n, ts.length = n := ⟨_, rfl⟩
    rw [hn] at hfew cA HTE
    have HN := Lib.hid hn
    have HZB := Lib.hid hZb
    clear hZa hn hZb
    go_enter Tryd.func6, Tryd.ntmps6
    go_wp2_with fail
    refine cA.mono ?_
    rintro e w1 ⟨b1, ao, cap, rfl, hcap, hTk⟩
    have hE1 := hE.later b1
    have hZ1 := hZI.below b1
    obtain ⟨g, rfl, hg, hc⟩ := hTk (by simp)
    have HC := Lib.hid hc
    have HE := Lib.hid hE1
    have HB := Lib.hid b1
    have HZI := Lib.hid hZ1
    have HR0 := Lib.hid (show w1.ownsRow w1.heap.size 3 1 (.slice none 0 0) ([] : List Nat).length (atC []) from World.ownsRow_nil _ _ _ _)
    have HK0 := Lib.hid (BkAt.start ts)
    clear cA hTk hc hE hE1 b1 hZI hZ1
    go_wp2_with fail
    go_loopg [8, 9, 10] (n + 1) (fun r s8 s9 s10 wr => ∃ (i : Nat) (X : ByteArray) (us : List Tk) (ats : List Nat), i + r = n + 1 ∧ s8 = .string X ∧ s10 = .int .i64 (i : Int) ∧ Hid (BkAt ts i X.data.toList us ats) ∧ X.size ≤ 103 * i ∧ Hid (wr.ownsRow w1.heap.size 3 1 s9 ats.length (atC ats)) ∧ Hid (Below w1.heap.size w1 wr))
    case atStart => exact ⟨0, ⟨#[]⟩, [], [], Nat.zero_add _, rfl, rfl, HK0, Nat.zero_le _, HR0, Lib.hid (Below.refl _ _)⟩
    case round =>
      obtain ⟨i, X, us, ats, hir, rfl, rfl, HK, hXs, HO, HBR⟩ := hrel
      clear HR0 HK0
      have HIR := Lib.hid hir
      have hbr := HBR.out.size
      have HAL := Lib.hid (show ats.length = i from HK.out.2.1)
      have hal2 : ats.length ≤ 101 := by have := HAL.out; omega
      by_cases hlt : i < n + 1
      · have hiz : (i : Int) < (n : Int) + 1 := by omega
        by_cases hin : i < n
        · obtain ⟨t, ht⟩ : ∃ t, ts[i]? = some t := ⟨_, List.getElem?_eq_getElem (by rw [HN.out]; exact hin)⟩
          obtain ⟨u, hu, h1, h2, h3, -, -, -⟩ := HNX.out i t ht
          have x3o := (HC.out i t (HTA.out i t ht)).2.2.2
          have x3 := x3o
          have y3 := (HC.out (i + 1) u hu).2.2.2
          have x3 := (HBR.out.cell (p := ⟨g, i * 4 + 3, none⟩) hg).trans x3
          have y3 := (HBR.out.cell (p := ⟨g, (i + 1) * 4 + 3, none⟩) hg).trans y3
          have hmid := HK.out.tok ht h3
          have hsz : (⟨t.s.toArray⟩ : ByteArray).size = (⟨t.s.toArray⟩ : ByteArray).size := rfl
          clear hsz
          obtain ⟨us2, hus2⟩ : ∃ us2, us ++ [(⟨t.k, t.s, t.n, X.data.toList.length⟩ : Tk)] = us2 := ⟨_, rfl⟩
          rw [hus2] at hmid
          generalize t.a = a at h1 h3 x3 x3o hmid
          generalize u.a = b at h1 h2 h3 y3 hmid
          have hiz2 : (i : Int) + 1 < (n : Int) + 1 := by omega
          have hi4 : ((i : Int) + 1).toNat = i + 1 := by omega
          have hi5 : (0 : Int) ≤ (i : Int) + 1 := by omega
          have hix : i < n + 1 := hlt
          clear ht hu hus2 h3
          by_cases hib : i < Z.length
          · obtain ⟨bz, off, e0, hcz⟩ := HZI.out (by omega)
            have hzz := (HBR.out.cell (p := ⟨bz, off + i, none⟩) (show bz < w1.heap.size from Lib.lt_of_cell (hcz i hib))).trans (hcz i hib)
            have hzr := HZB.out (Z.getD i 0) (by rw [List.getD_eq_getElem?_getD, List.getElem?_eq_getElem hib]; exact List.getElem_mem hib)
            obtain ⟨k3, hk3, cP⟩ := place_nat (Z.getD i 0) 3 hzr.1 hzr.2 (by decide) (by decide)
            obtain ⟨nb, hnb⟩ : ∃ nb : Nat, 1 + k3 = nb := ⟨_, rfl⟩
            have hnz : (1 : Int) + (k3 : Int) = (nb : Int) := by omega
            have hib2 : (i : Int) < (Z.length : Int) := by omega
            have hnb1 : 1 ≤ nb := by omega
            have hnb3 : nb ≤ 3 := by omega
            generalize Z.getD i 0 = z0 at *
            subst e0
            clear hcz hzr hib
            go_wp2_with fail
            refine (cP _).mono ?_
            rintro e wp ⟨rfl, rfl⟩
            clear cP hzz
            go_wp2_with (at_builtin; refine wpList_append_own _ rfl _ _ 33 rfl w1.heap.size 3 i0 _ 1 8 Tryd.underlying33 hi hz0 hz1 hz2 rfl (by decide) _ _ _ rfl (HO.out.alloc _) ⟨wr.heap.size, 0, none⟩ 1 1 [.int .i64 (X.size : Int)] rfl rfl (one_news _ _ _) (one_cell _) ?c3 ?c4 ?c5 ?_)
            case c3 => unfold maxLen; omega
            case c4 => omega
            case c5 => first | (rw [alloc_size]; omega) | omega
            intro v' wC hown' hgrow _
            have hbC : Below w1.heap.size w1 wC := (HBR.out.alloc hbr _).grown hgrow (by rw [alloc_size]; omega) (fun k hk => (HO.out.lt k hk).1)
            have hOC : wC.ownsRow w1.heap.size 3 1 v' (ats ++ [X.size]).length (atC (ats ++ [X.size])) := by
              rw [List.length_append, List.length_singleton, ← atC_snoc]; exact hown'
            have x3c := (hbC.cell (p := ⟨g, i * 4 + 3, none⟩) hg).trans x3o
            have HBC := Lib.hid hbC
            have HOC := Lib.hid hOC
            clear hbC hOC hown' hgrow x3 x3o
            obtain ⟨G, hG⟩ : ∃ G, s.extract a b = G := ⟨_, rfl⟩
            rw [hG] at hmid
            obtain ⟨Y, hY⟩ : ∃ Y, X ++ G = Y := ⟨_, rfl⟩
            have hYl : Y.data.toList = X.data.toList ++ G.data.toList := by rw [← hY, app_list]
            have hYs : Y.size = X.size + G.size := by rw [← hY, app_size]
            have hGs : G.size ≤ 100 := by
              rw [← hG, ← size_list, Lib.extract_data, List.length_take, List.length_drop, size_list]; omega
            have hov : ¬ 9223372036854775807 < X.size + G.size := by omega
            have hab : (a : Int) ≤ (b : Int) := by omega
            have hbs : (b : Int) ≤ (s.size : Int) := by omega
            rw [← hYl, size_list] at hmid
            have HMID := Lib.hid hmid
            clear hmid hYl
            go_wp2_with fail
            go_loopg [8, 13] (nb) (fun r2 s8 s13 wy => ∃ (k : Nat) (V : ByteArray), k + r2 = nb ∧ s8 = .string V ∧ s13 = .int .i64 (k : Int) ∧ Hid (BkMid ts i V.data.toList us2 (ats ++ [X.size])) ∧ Hid (0 < k → BkAt ts (i + 1) V.data.toList us2 (ats ++ [X.size])) ∧ V.size = Y.size + k ∧ wy = wC)
            case atStart => exact ⟨0, Y, Nat.zero_add _, (by first | rfl | exact congrArg Value.string HXY.out), rfl, HMID, Lib.hid (fun h => absurd h (Nat.lt_irrefl _)), rfl, rfl⟩
            case round =>
              obtain ⟨k, V, hk, rfl, rfl, HM, HKA, hVs, rfl⟩ := hrel
              have HKK := Lib.hid hk
              clear HMID
              by_cases hkn : k < nb
              · have hkz : (k : Int) < (nb : Int) := by omega
                have hov2 : ¬ 9223372036854775807 < V.size + 1 := by omega
                have hbl : ∀ c : UInt8, BlankB c → BkMid ts i (V ++ (⟨#[c]⟩ : ByteArray)).data.toList us2 (ats ++ [X.size]) ∧ BkAt ts (i + 1) (V ++ (⟨#[c]⟩ : ByteArray)).data.toList us2 (ats ++ [X.size]) := fun c hc => by
                  rw [app_list]; exact HM.out.blank hc
                have HBL := Lib.hid hbl
                have hsz2 : ∀ c : UInt8, (V ++ (⟨#[c]⟩ : ByteArray)).size = Y.size + (k + 1) := fun c => by rw [app_size, hVs]; rfl
                have HSZ := Lib.hid hsz2
                clear hbl hsz2 HM HKA hk
                have hk3 : k = 0 ∨ k = 1 ∨ k = 2 := by omega
                rcases hk3 with rfl | rfl | rfl
                · have hidx := fun w => idx_0 w
                  go_wp2_with fail
                  go_roundg (gk - 1)
                  case measure => have := HKK.out; omega
                  case rel => exact ⟨_, V ++ (⟨#[32]⟩ : ByteArray), by have := HKK.out; omega, rfl, by go_num, Lib.hid (HBL.out 32 (.inl rfl)).1, Lib.hid (fun _ => (HBL.out 32 (.inl rfl)).2), HSZ.out 32, rfl⟩
                · have hidx := fun w => idx_1 w
                  go_wp2_with fail
                  go_roundg (gk - 1)
                  case measure => have := HKK.out; omega
                  case rel => exact ⟨_, V ++ (⟨#[9]⟩ : ByteArray), by have := HKK.out; omega, rfl, by go_num, Lib.hid (HBL.out 9 (.inr (.inl rfl))).1, Lib.hid (fun _ => (HBL.out 9 (.inr (.inl rfl))).2), HSZ.out 9, rfl⟩
                · have hidx := fun w => idx_2 w
                  go_wp2_with fail
                  go_roundg (gk - 1)
                  case measure => have := HKK.out; omega
                  case rel => exact ⟨_, V ++ (⟨#[10]⟩ : ByteArray), by have := HKK.out; omega, rfl, by go_num, Lib.hid (HBL.out 10 (.inr (.inr rfl))).1, Lib.hid (fun _ => (HBL.out 10 (.inr (.inr rfl))).2), HSZ.out 10, rfl⟩
              · have hkz : ¬ (k : Int) < (nb : Int) := by omega
                have hka := HKA.out (by omega)
                have HKF := Lib.hid hka
                clear hka HM HKA hk
                go_wp2_with fail
                go_roundg (n - i)
                case measure => have := HIR.out; omega
                case rel => exact ⟨i + 1, V, us2, ats ++ [X.size], by omega, rfl, by go_num, HKF, by have := HKK.out; omega, HOC, HBC⟩
          · have hib2 : ¬ (i : Int) < (Z.length : Int) := by omega
            clear hib
            go_wp2_with (at_builtin; refine wpList_append_own _ rfl _ _ 33 rfl w1.heap.size 3 i0 _ 1 8 Tryd.underlying33 hi hz0 hz1 hz2 rfl (by decide) _ _ _ rfl (HO.out.alloc _) ⟨wr.heap.size, 0, none⟩ 1 1 [.int .i64 (X.size : Int)] rfl rfl (one_news _ _ _) (one_cell _) ?c3 ?c4 ?c5 ?_)
            case c3 => unfold maxLen; omega
            case c4 => omega
            case c5 => first | (rw [alloc_size]; omega) | omega
            intro v' wC hown' hgrow _
            have hbC : Below w1.heap.size w1 wC := (HBR.out.alloc hbr _).grown hgrow (by rw [alloc_size]; omega) (fun k hk => (HO.out.lt k hk).1)
            have hOC : wC.ownsRow w1.heap.size 3 1 v' (ats ++ [X.size]).length (atC (ats ++ [X.size])) := by
              rw [List.length_append, List.length_singleton, ← atC_snoc]; exact hown'
            have x3c := (hbC.cell (p := ⟨g, i * 4 + 3, none⟩) hg).trans x3o
            have HBC := Lib.hid hbC
            have HOC := Lib.hid hOC
            clear hbC hOC hown' hgrow x3 x3o
            obtain ⟨G, hG⟩ : ∃ G, s.extract a b = G := ⟨_, rfl⟩
            rw [hG] at hmid
            obtain ⟨Y, hY⟩ : ∃ Y, X ++ G = Y := ⟨_, rfl⟩
            have hYl : Y.data.toList = X.data.toList ++ G.data.toList := by rw [← hY, app_list]
            have hYs : Y.size = X.size + G.size := by rw [← hY, app_size]
            have hGs : G.size ≤ 100 := by
              rw [← hG, ← size_list, Lib.extract_data, List.length_take, List.length_drop, size_list]; omega
            have hov : ¬ 9223372036854775807 < X.size + G.size := by omega
            have hab : (a : Int) ≤ (b : Int) := by omega
            have hbs : (b : Int) ≤ (s.size : Int) := by omega
            rw [← hYl, size_list] at hmid
            have HMID := Lib.hid hmid
            clear hmid hYl
            go_wp2_with fail
            go_loopg [8, 13] (1) (fun r2 s8 s13 wy => ∃ (k : Nat) (V : ByteArray), k + r2 = 1 ∧ s8 = .string V ∧ s13 = .int .i64 (k : Int) ∧ Hid (BkMid ts i V.data.toList us2 (ats ++ [X.size])) ∧ Hid (0 < k → BkAt ts (i + 1) V.data.toList us2 (ats ++ [X.size])) ∧ V.size = Y.size + k ∧ wy = wC)
            case atStart => exact ⟨0, Y, Nat.zero_add _, (by first | rfl | exact congrArg Value.string HXY.out), rfl, HMID, Lib.hid (fun h => absurd h (Nat.lt_irrefl _)), rfl, rfl⟩
            case round =>
              obtain ⟨k, V, hk, rfl, rfl, HM, HKA, hVs, rfl⟩ := hrel
              have HKK := Lib.hid hk
              clear HMID
              by_cases hkn : k < 1
              · have hkz : (k : Int) < 1 := by omega
                have hov2 : ¬ 9223372036854775807 < V.size + 1 := by omega
                have hbl : ∀ c : UInt8, BlankB c → BkMid ts i (V ++ (⟨#[c]⟩ : ByteArray)).data.toList us2 (ats ++ [X.size]) ∧ BkAt ts (i + 1) (V ++ (⟨#[c]⟩ : ByteArray)).data.toList us2 (ats ++ [X.size]) := fun c hc => by
                  rw [app_list]; exact HM.out.blank hc
                have HBL := Lib.hid hbl
                have hsz2 : ∀ c : UInt8, (V ++ (⟨#[c]⟩ : ByteArray)).size = Y.size + (k + 1) := fun c => by rw [app_size, hVs]; rfl
                have HSZ := Lib.hid hsz2
                clear hbl hsz2 HM HKA hk
                obtain rfl : k = 0 := by omega
                · have hidx := fun w => idx_0 w
                  go_wp2_with fail
                  go_roundg (gk - 1)
                  case measure => have := HKK.out; omega
                  case rel => exact ⟨_, V ++ (⟨#[32]⟩ : ByteArray), by have := HKK.out; omega, rfl, by go_num, Lib.hid (HBL.out 32 (.inl rfl)).1, Lib.hid (fun _ => (HBL.out 32 (.inl rfl)).2), HSZ.out 32, rfl⟩
              · have hkz : ¬ (k : Int) < 1 := by omega
                have hka := HKA.out (by omega)
                have HKF := Lib.hid hka
                clear hka HM HKA hk
                go_wp2_with fail
                go_roundg (n - i)
                case measure => have := HIR.out; omega
                case rel => exact ⟨i + 1, V, us2, ats ++ [X.size], by omega, rfl, by go_num, HKF, by have := HKK.out; omega, HOC, HBC⟩
        · have hin2 : i = n := by omega
          have x3o := (HC.out n _ HTE.out).2.2.2
          have x3 := x3o
          have x3 := (HBR.out.cell (p := ⟨g, n * 4 + 3, none⟩) hg).trans x3
          have hmid := HK.out.fin (by rw [HN.out]; omega)
          have hex0 : X.data.toList = X.data.toList ++ (s.extract s.size s.size).data.toList := by
            rw [Lib.extract_data]; simp
          rw [hex0] at hmid
          have hmid : BkMid ts i (X.data.toList ++ (s.extract s.size s.size).data.toList) us (ats ++ [X.data.toList.length]) := by
            have := HK.out.fin (show ts.length ≤ i by rw [HN.out]; omega)
            rw [← hex0]; exact this
          clear hex0
          simp only [endT] at x3 x3o
          rw [← hin2] at x3 x3o
          obtain ⟨us2, hus2⟩ : ∃ us2, us = us2 := ⟨_, rfl⟩
          rw [hus2] at hmid
          have h1 : s.size ≤ s.size := Nat.le_refl _
          have hiz2 : ¬ (i : Int) + 1 < (n : Int) + 1 := by omega
          have hix : i < n + 1 := hlt
          have HIN2 := Lib.hid hin2
          clear hus2 hin hin2 hiz
          have hiz : (i : Int) < (n : Int) + 1 := by have := HIN2.out; omega
          by_cases hib : i < Z.length
          · obtain ⟨bz, off, e0, hcz⟩ := HZI.out (by omega)
            have hzz := (HBR.out.cell (p := ⟨bz, off + i, none⟩) (show bz < w1.heap.size from Lib.lt_of_cell (hcz i hib))).trans (hcz i hib)
            have hzr := HZB.out (Z.getD i 0) (by rw [List.getD_eq_getElem?_getD, List.getElem?_eq_getElem hib]; exact List.getElem_mem hib)
            obtain ⟨k3, hk3, cP⟩ := place_nat (Z.getD i 0) 3 hzr.1 hzr.2 (by decide) (by decide)
            obtain ⟨nb, hnb⟩ : ∃ nb : Nat, 1 + k3 = nb := ⟨_, rfl⟩
            have hnz : (1 : Int) + (k3 : Int) = (nb : Int) := by omega
            have hib2 : (i : Int) < (Z.length : Int) := by omega
            have hnb1 : 1 ≤ nb := by omega
            have hnb3 : nb ≤ 3 := by omega
            generalize Z.getD i 0 = z0 at *
            subst e0
            clear hcz hzr hib
            go_wp2_with fail
            refine (cP _).mono ?_
            rintro e wp ⟨rfl, rfl⟩
            clear cP hzz
            go_wp2_with (at_builtin; refine wpList_append_own _ rfl _ _ 33 rfl w1.heap.size 3 i0 _ 1 8 Tryd.underlying33 hi hz0 hz1 hz2 rfl (by decide) _ _ _ rfl (HO.out.alloc _) ⟨wr.heap.size, 0, none⟩ 1 1 [.int .i64 (X.size : Int)] rfl rfl (one_news _ _ _) (one_cell _) ?c3 ?c4 ?c5 ?_)
            case c3 => unfold maxLen; omega
            case c4 => omega
            case c5 => first | (rw [alloc_size]; omega) | omega
            intro v' wC hown' hgrow _
            have hbC : Below w1.heap.size w1 wC := (HBR.out.alloc hbr _).grown hgrow (by rw [alloc_size]; omega) (fun k hk => (HO.out.lt k hk).1)
            have hOC : wC.ownsRow w1.heap.size 3 1 v' (ats ++ [X.size]).length (atC (ats ++ [X.size])) := by
              rw [List.length_append, List.length_singleton, ← atC_snoc]; exact hown'
            have x3c := (hbC.cell (p := ⟨g, i * 4 + 3, none⟩) hg).trans x3o
            have HBC := Lib.hid hbC
            have HOC := Lib.hid hOC
            clear hbC hOC hown' hgrow x3 x3o
            obtain ⟨G, hG⟩ : ∃ G, s.extract s.size s.size = G := ⟨_, rfl⟩
            rw [hG] at hmid
            obtain ⟨Y, hY⟩ : ∃ Y, X ++ G = Y := ⟨_, rfl⟩
            have hXY : X = Y := by
              rw [← hY, ← hG]; apply ByteArray.ext; apply Array.toList_inj.1; rw [app_list, Lib.extract_data]; simp
            have HXY := Lib.hid hXY
            clear hXY
            have hYl : Y.data.toList = X.data.toList ++ G.data.toList := by rw [← hY, app_list]
            have hYs : Y.size = X.size + G.size := by rw [← hY, app_size]
            have hGs : G.size ≤ 100 := by
              rw [← hG, ← size_list, Lib.extract_data, List.length_take, List.length_drop, size_list]; omega
            have hov : ¬ 9223372036854775807 < X.size + G.size := by omega
            have hab : (s.size : Int) ≤ (s.size : Int) := by omega
            have hbs : (s.size : Int) ≤ (s.size : Int) := by omega
            rw [← hYl, size_list] at hmid
            have HMID := Lib.hid hmid
            clear hmid hYl
            go_wp2_with fail
            go_loopg [8, 13] (nb) (fun r2 s8 s13 wy => ∃ (k : Nat) (V : ByteArray), k + r2 = nb ∧ s8 = .string V ∧ s13 = .int .i64 (k : Int) ∧ Hid (BkMid ts i V.data.toList us2 (ats ++ [X.size])) ∧ Hid (0 < k → BkAt ts (i + 1) V.data.toList us2 (ats ++ [X.size])) ∧ V.size = Y.size + k ∧ wy = wC)
            case atStart => exact ⟨0, Y, Nat.zero_add _, (by first | rfl | exact congrArg Value.string HXY.out), rfl, HMID, Lib.hid (fun h => absurd h (Nat.lt_irrefl _)), rfl, rfl⟩
            case round =>
              obtain ⟨k, V, hk, rfl, rfl, HM, HKA, hVs, rfl⟩ := hrel
              have HKK := Lib.hid hk
              clear HMID
              by_cases hkn : k < nb
              · have hkz : (k : Int) < (nb : Int) := by omega
                have hov2 : ¬ 9223372036854775807 < V.size + 1 := by omega
                have hbl : ∀ c : UInt8, BlankB c → BkMid ts i (V ++ (⟨#[c]⟩ : ByteArray)).data.toList us2 (ats ++ [X.size]) ∧ BkAt ts (i + 1) (V ++ (⟨#[c]⟩ : ByteArray)).data.toList us2 (ats ++ [X.size]) := fun c hc => by
                  rw [app_list]; exact HM.out.blank hc
                have HBL := Lib.hid hbl
                have hsz2 : ∀ c : UInt8, (V ++ (⟨#[c]⟩ : ByteArray)).size = Y.size + (k + 1) := fun c => by rw [app_size, hVs]; rfl
                have HSZ := Lib.hid hsz2
                clear hbl hsz2 HM HKA hk
                have hk3 : k = 0 ∨ k = 1 ∨ k = 2 := by omega
                rcases hk3 with rfl | rfl | rfl
                · have hidx := fun w => idx_0 w
                  go_wp2_with fail
                  go_roundg (gk - 1)
                  case measure => have := HKK.out; omega
                  case rel => exact ⟨_, V ++ (⟨#[32]⟩ : ByteArray), by have := HKK.out; omega, rfl, by go_num, Lib.hid (HBL.out 32 (.inl rfl)).1, Lib.hid (fun _ => (HBL.out 32 (.inl rfl)).2), HSZ.out 32, rfl⟩
                · have hidx := fun w => idx_1 w
                  go_wp2_with fail
                  go_roundg (gk - 1)
                  case measure => have := HKK.out; omega
                  case rel => exact ⟨_, V ++ (⟨#[9]⟩ : ByteArray), by have := HKK.out; omega, rfl, by go_num, Lib.hid (HBL.out 9 (.inr (.inl rfl))).1, Lib.hid (fun _ => (HBL.out 9 (.inr (.inl rfl))).2), HSZ.out 9, rfl⟩
                · have hidx := fun w => idx_2 w
                  go_wp2_with fail
                  go_roundg (gk - 1)
                  case measure => have := HKK.out; omega
                  case rel => exact ⟨_, V ++ (⟨#[10]⟩ : ByteArray), by have := HKK.out; omega, rfl, by go_num, Lib.hid (HBL.out 10 (.inr (.inr rfl))).1, Lib.hid (fun _ => (HBL.out 10 (.inr (.inr rfl))).2), HSZ.out 10, rfl⟩
              · have hkz : ¬ (k : Int) < (nb : Int) := by omega
                have hka := HKA.out (by omega)
                have HKF := Lib.hid hka
                clear hka HM HKA hk
                go_wp2_with fail
                go_roundg (n - i)
                case measure => have := HIR.out; omega
                case rel => exact ⟨i + 1, V, us2, ats ++ [X.size], by omega, rfl, by go_num, HKF, by have := HKK.out; omega, HOC, HBC⟩
          · have hib2 : ¬ (i : Int) < (Z.length : Int) := by omega
            clear hib
            go_wp2_with (at_builtin; refine wpList_append_own _ rfl _ _ 33 rfl w1.heap.size 3 i0 _ 1 8 Tryd.underlying33 hi hz0 hz1 hz2 rfl (by decide) _ _ _ rfl (HO.out.alloc _) ⟨wr.heap.size, 0, none⟩ 1 1 [.int .i64 (X.size : Int)] rfl rfl (one_news _ _ _) (one_cell _) ?c3 ?c4 ?c5 ?_)
            case c3 => unfold maxLen; omega
            case c4 => omega
            case c5 => first | (rw [alloc_size]; omega) | omega
            intro v' wC hown' hgrow _
            have hbC : Below w1.heap.size w1 wC := (HBR.out.alloc hbr _).grown hgrow (by rw [alloc_size]; omega) (fun k hk => (HO.out.lt k hk).1)
            have hOC : wC.ownsRow w1.heap.size 3 1 v' (ats ++ [X.size]).length (atC (ats ++ [X.size])) := by
              rw [List.length_append, List.length_singleton, ← atC_snoc]; exact hown'
            have x3c := (hbC.cell (p := ⟨g, i * 4 + 3, none⟩) hg).trans x3o
            have HBC := Lib.hid hbC
            have HOC := Lib.hid hOC
            clear hbC hOC hown' hgrow x3 x3o
            obtain ⟨G, hG⟩ : ∃ G, s.extract s.size s.size = G := ⟨_, rfl⟩
            rw [hG] at hmid
            obtain ⟨Y, hY⟩ : ∃ Y, X ++ G = Y := ⟨_, rfl⟩
            have hXY : X = Y := by
              rw [← hY, ← hG]; apply ByteArray.ext; apply Array.toList_inj.1; rw [app_list, Lib.extract_data]; simp
            have HXY := Lib.hid hXY
            clear hXY
            have hYl : Y.data.toList = X.data.toList ++ G.data.toList := by rw [← hY, app_list]
            have hYs : Y.size = X.size + G.size := by rw [← hY, app_size]
            have hGs : G.size ≤ 100 := by
              rw [← hG, ← size_list, Lib.extract_data, List.length_take, List.length_drop, size_list]; omega
            have hov : ¬ 9223372036854775807 < X.size + G.size := by omega
            have hab : (s.size : Int) ≤ (s.size : Int) := by omega
            have hbs : (s.size : Int) ≤ (s.size : Int) := by omega
            rw [← hYl, size_list] at hmid
            have HMID := Lib.hid hmid
            clear hmid hYl
            go_wp2_with fail
            go_loopg [8, 13] (1) (fun r2 s8 s13 wy => ∃ (k : Nat) (V : ByteArray), k + r2 = 1 ∧ s8 = .string V ∧ s13 = .int .i64 (k : Int) ∧ Hid (BkMid ts i V.data.toList us2 (ats ++ [X.size])) ∧ Hid (0 < k → BkAt ts (i + 1) V.data.toList us2 (ats ++ [X.size])) ∧ V.size = Y.size + k ∧ wy = wC)
            case atStart => exact ⟨0, Y, Nat.zero_add _, (by first | rfl | exact congrArg Value.string HXY.out), rfl, HMID, Lib.hid (fun h => absurd h (Nat.lt_irrefl _)), rfl, rfl⟩
            case round =>
              obtain ⟨k, V, hk, rfl, rfl, HM, HKA, hVs, rfl⟩ := hrel
              have HKK := Lib.hid hk
              clear HMID
              by_cases hkn : k < 1
              · have hkz : (k : Int) < 1 := by omega
                have hov2 : ¬ 9223372036854775807 < V.size + 1 := by omega
                have hbl : ∀ c : UInt8, BlankB c → BkMid ts i (V ++ (⟨#[c]⟩ : ByteArray)).data.toList us2 (ats ++ [X.size]) ∧ BkAt ts (i + 1) (V ++ (⟨#[c]⟩ : ByteArray)).data.toList us2 (ats ++ [X.size]) := fun c hc => by
                  rw [app_list]; exact HM.out.blank hc
                have HBL := Lib.hid hbl
                have hsz2 : ∀ c : UInt8, (V ++ (⟨#[c]⟩ : ByteArray)).size = Y.size + (k + 1) := fun c => by rw [app_size, hVs]; rfl
                have HSZ := Lib.hid hsz2
                clear hbl hsz2 HM HKA hk
                obtain rfl : k = 0 := by omega
                · have hidx := fun w => idx_0 w
                  go_wp2_with fail
                  go_roundg (gk - 1)
                  case measure => have := HKK.out; omega
                  case rel => exact ⟨_, V ++ (⟨#[32]⟩ : ByteArray), by have := HKK.out; omega, rfl, by go_num, Lib.hid (HBL.out 32 (.inl rfl)).1, Lib.hid (fun _ => (HBL.out 32 (.inl rfl)).2), HSZ.out 32, rfl⟩
              · have hkz : ¬ (k : Int) < 1 := by omega
                have hka := HKA.out (by omega)
                have HKF := Lib.hid hka
                clear hka HM HKA hk
                go_wp2_with fail
                go_roundg (n - i)
                case measure => have := HIR.out; omega
                case rel => exact ⟨i + 1, V, us2, ats ++ [X.size], by omega, rfl, by go_num, HKF, by have := HKK.out; omega, HOC, HBC⟩
      · obtain rfl : i = n + 1 := by omega
        have hiz : ¬ ((n + 1 : Nat) : Int) < (n : Int) + 1 := by omega
        have hiz3 : ¬ (n : Int) + 1 < (n : Int) + 1 := by omega
        by_cases h400 : 400 < X.size
        · have h4z : (400 : Int) < (X.size : Int) := by omega
          have hA := awake_any wr (HE.out.later HBR.out)
          go_wp2_with fail
          refine hA.mono ?_
          rintro e w4 ⟨rfl, b4⟩
          go_wp2
          go_ret
          exact ⟨rfl, below_to (below_to HB.out HBR.out) b4⟩
        · have h4z : ¬ (400 : Int) < (X.size : Int) := by omega
          have cM := lex_yes X us wr (by omega) HK.out.1.1 (HE.out.later HBR.out)
          have hul : us.length = n := by rw [HK.out.2.2.1, HN.out]; omega
          rw [hul] at cM
          have HUL := Lib.hid hul
          have HX4 := Lib.hid h400
          clear hul h400
          go_wp2_with fail
          refine cM.mono ?_
          rintro e w5 ⟨b5, mo, cap5, rfl, hcap5, hTm⟩
          obtain ⟨gm, rfl, hgm, hcm⟩ := hTm (by simp)
          obtain ⟨ao2, cap2, hv2, hn2, -, hat⟩ := own_slice (own_later HO.out b5)
          subst hv2
          obtain ⟨ga, rfl, hga, hca⟩ := hat (by have := HAL.out; omega)
          have HCM := Lib.hid hcm
          have HCA := Lib.hid hca
          have HB5 := Lib.hid b5
          clear cM hTm hcm hat hca b5
          go_wp2_with fail
          go_loopg [17] (n + 1) (fun r iv wy => ∃ j : Nat, j + r = n + 1 ∧ iv = .int .i64 (j : Int) ∧ ∃ q, wy = w5.drewN q)
          case atStart => exact ⟨0, Nat.zero_add _, rfl, 0, rfl⟩
          case round =>
            obtain ⟨j, hj, rfl, q, rfl⟩ := hrel
            have HJ := Lib.hid hj
            by_cases hlt2 : j < n + 1
            · have hjz : (j : Int) < (n : Int) + 1 := by omega
              have hjx : ¬ n + 1 ≤ j := by omega
              by_cases hjn : j < n
              · obtain ⟨t, ht⟩ : ∃ t, ts[j]? = some t := ⟨_, List.getElem?_eq_getElem (by rw [HN.out]; exact hjn)⟩
                obtain ⟨a, e1, e2⟩ := HK.out.2.2.2 j t (by omega) ht
                obtain ⟨x0, x1, x2, x3⟩ := HCM.out j _ (tk_at us X.size j _ e2)
                obtain ⟨y0, y1, y2, y3⟩ := HC.out j t (HTA.out j t ht)
                have y0 := ((HBR.out.trans (HB5.out.mono hbr)).cell (p := ⟨g, j * 4, none⟩) hg).trans y0
                have y1 := ((HBR.out.trans (HB5.out.mono hbr)).cell (p := ⟨g, j * 4 + 1, none⟩) hg).trans y1
                have y2 := ((HBR.out.trans (HB5.out.mono hbr)).cell (p := ⟨g, j * 4 + 2, none⟩) hg).trans y2
                have v0 := HCA.out j (.int .i64 (a : Int)) (by rw [List.getElem?_map, e1]; rfl)
                dsimp only at x0 x1 x2 x3
                generalize (⟨t.s.toArray⟩ : ByteArray) = S at *
                generalize (t.k : Int) = K at *
                generalize (t.n : Int) = N at *
                have hw : IntKind.i64.wrap ((j : Int) + 1) = (j : Int) + 1 := IntWalk.i64_in _ (by omega)
                have hd1 : decide ((j : Int) + 1 < (n : Int) + 1) = true := decide_eq_true (by omega)
                have hd2 : decide (j + 1 < n + 1) = true := decide_eq_true (by omega)
                have hd3 : decide (j < n) = true := decide_eq_true (by omega)
                have hal : ats.length = n + 1 := HAL.out
                have hja : (j : Int) < (ats.length : Int) := by omega
                have hja2 : j < ats.length := by omega
                clear hal
                have hja3 : (j : Int) < (n : Int) + 1 := hjz
                clear ht e1 e2
                go_wp2_with fail
                go_quiet (fail)
                go_wp2_with fail
                go_roundg (gk - 1)
                case measure => have := HJ.out; omega
                case rel => exact ⟨j + 1, by have := HJ.out; omega, by go_num, _, rfl⟩
              · obtain rfl : j = n := by omega
                obtain ⟨x0, x1, x2, x3⟩ := HCM.out j (endT X.size) (by have := tk_end_at us X.size; rwa [HUL.out] at this)
                obtain ⟨y0, y1, y2, y3⟩ := HC.out j (endT s.size) HTE.out
                have y0 := ((HBR.out.trans (HB5.out.mono hbr)).cell (p := ⟨g, j * 4, none⟩) hg).trans y0
                have y1 := ((HBR.out.trans (HB5.out.mono hbr)).cell (p := ⟨g, j * 4 + 1, none⟩) hg).trans y1
                have y2 := ((HBR.out.trans (HB5.out.mono hbr)).cell (p := ⟨g, j * 4 + 2, none⟩) hg).trans y2
                simp only [endT] at x0 x1 x2 y0 y1 y2
                have hw : IntKind.i64.wrap ((j : Int) + 1) = (j : Int) + 1 := IntWalk.i64_in _ (by omega)
                have hd1 : decide ((j : Int) + 1 < (j : Int) + 1) = false := decide_eq_false (by omega)
                have hd2 : decide (j + 1 < j + 1) = false := decide_eq_false (by omega)
                go_wp2_with fail
                go_quiet (fail)
                go_wp2_with fail
                go_roundg (gk - 1)
                case measure => have := HJ.out; omega
                case rel => exact ⟨j + 1, by have := HJ.out; omega, by go_num, _, rfl⟩
            · have hjz : ¬ (j : Int) < (n : Int) + 1 := by omega
              have hA := awake_any (w5.drewN q) ((HE.out.later (HBR.out.trans (HB5.out.mono hbr))).later (below_q (Below.refl _ _) q))
              go_wp2_with fail
              refine hA.mono ?_
              rintro e w6 ⟨rfl, b6⟩
              go_wp2
              go_ret
              exact ⟨rfl, below_to (below_q (below_to HB.out (HBR.out.trans (HB5.out.mono hbr))) q) b6⟩
set_option maxRecDepth 1000000 in
theorem lexblanks_lifted (os : Os) (started : os.Started) (H : Type) (enc : TypeId × Value → H) :
    ReturnsInHanded {} Tryd.checked os 6 .any (fun w args => (Rows.lexBlanksSpec.pre enc Tryd.prog Tryd.f6 [] false w args ∧ laidMetH Tryd.prog tabsLaid7 w) ∧ sizedMet enc Tryd.prog Tryd.f6 (OpenSpec.ofChange Rows.lexBlanksSpec) false w args)
      (Rows.lexBlanksSpec.post enc Tryd.prog Tryd.f6 false true false false) := by
  refine returnsInHanded_of_change_and (C := Tryd.checked) (X := fun w _ => laidMetH Tryd.prog tabsLaid7 w) (fun _ _ _ hh h => h.of_heap hh) own started (by kernel_rfl) Tryd.func6
    (ChangeSpec.witness_shaped (enc := enc) (C := Tryd.checked) (os := os) (X := fun w _ => laidMetH Tryd.prog tabsLaid7 w) false (World.laidAll Tryd.prog os tabsLaid7) #[.string ⟨#[]⟩, .slice none 0 0] 8 (World.laidAll_os _ _ _)
      (World.shaped_of_ZipB (by kernel_rfl) (by kernel_rfl)) (by kernel_rfl) (by kernel_rfl) (by kernel_rfl) (start_met7 os _)) ?_
  intro W base args ds gs before hval0 hW _ hsz0 hL _
  have hsz := hsz0
  have hval : ∀ (j : Nat) t v, Tryd.f6.params[j]? = some t → args[j]? = some v → Value.okWide Tryd.prog W .any base t v := hval0
  have hW' := hW
  obtain ⟨p, q, hA0, hV, rfl, _, _⟩ := hW
  have hA : DataW.TrodAll enc Tryd.prog W 0 (fun _ => true) true Tryd.f6.params.toList args.toList ds p := hA0
  rw [Tryd.params6] at hA hval
  obtain ⟨v0, v1, d0, d1, p0, p1, rfl, rfl, rfl, h0, h1⟩ := trodAll_two hA
  obtain ⟨rfl, rfl⟩ := trodVars_none hV
  obtain ⟨x0, rfl, rfl, rfl, wx0⟩ := Go.ChangeMaps.open_string Tryd.underlying9 (hval 0 9 v0 rfl rfl) h0
  have rx0 : x0.size ≤ 9223372036854775807 := by have := wx0; unfold maxLen at this; omega
  have hlt1 : ∀ x ∈ p1, x.block < W.heap.size := fun x hx => hW'.lt x (by simp [hx])
  have h1k := h1
  obtain ⟨A1, L1, c1, rfl, lc1, cm1, B1, N1⟩ := open_nums Tryd.underlying33 Tryd.underlying3 (by kernel_rfl) (hval 1 33 v1 rfl rfl) h1 (fun elems spare e => by
    subst e
    have := sized_slice hsz (j := 1) (t := 33) (e := 3) rfl rfl Tryd.underlying33
    rwa [show Tryd.checked.prog.bytesOf 3 = 8 by kernel_rfl] at this)
  simp only [List.append_nil] at hW'
  refine (lexblanks_walk x0 A1 L1 c1 W rx0 lc1 cm1 B1 N1 (env7_of_laid hL)).mono fun e W' ⟨he, hb⟩ => ?_
  subst he
  exact ⟨_, rfl, _, _, _, [], _, [], hW', trodAll_mk1 (shut_bool Tryd.underlying4 _), trodAll_mk2 (Go.ChangeMaps.shut_string Tryd.underlying9 wx0) (Below.trod laidOut (by kernel_rfl) (of_decide_eq_true (by kernel_rfl)) h1k hb hlt1), rfl, hb.frame _, fun h => by cases h⟩

theorem lexblanks_holds : Rows.LexBlanksSaid :=
  OpenClaim.holds_of_wide 6 Tryd.f6 rfl rfl rfl rfl rfl rfl rfl ⟨rfl, rfl, rfl, rfl, rfl⟩ rfl rfl rfl rfl rfl (by kernel_rfl) Tryd.func6 (by kernel_rfl)
    (of_decide_eq_true (by kernel_rfl)) (by unfold Func.isWrapper; first | (rw [if_pos (by decide +kernel)]; kernel_rfl) | (rw [if_neg (by decide +kernel)]; exact ⟨rfl, rfl⟩))
    (fun os started H enc _ => lexblanks_lifted os started H enc)

theorem lexblanks_card : Rows.LexBlanksCardSaid :=
  Claim7.holds_tied_plain_at .later [] [.data, .data, .data, .data, .sentinel, .sentinel, .pinned] true _ true
    lexblanks_holds (fun _ h => by cases h) (by kernel_rfl) (fun _ h => by cases h) lexBlanks_row_tie rfl ⟨rfl, rfl⟩ (by kernel_rfl) rfl
    (fun f fn hf hfn => by
      obtain rfl : f = 6 := Option.some.inj ((show Tryd.prog.funcNamed "palaver/palaverlaw06.LexBlanks" = some 6 by kernel_rfl).symm.trans hf) |>.symm
      obtain rfl : fn = Tryd.f6 := (Option.some.inj (Tryd.func6.symm.trans hfn)).symm
      exact ⟨by kernel_rfl, fun j t ht => by
        rw [Tryd.params6] at ht
        have hm : t ∈ [9, 33] := by simpa using Array.mem_of_getElem? ht
        have hall : ([9, 33].all fun u => !Tryd.prog.wantsStandIn u) = true := by kernel_rfl
        exact (show Tryd.prog.wantsStandIn t = false by simpa using List.all_eq_true.1 hall t hm)⟩)
    (by kernel_rfl)
end Go.Proofs.YtbeeeakcjeibgaaDoor
