/- The statement LexJoin: of two texts with a blank between, the tokens are both one's. Conditions: none but what the card ties (the library's variables hold what their texts lay). -/
import Derived.Test.YtbeeeakcjeibgaaDoorLexEq
import Derived.Test.YtbeeeakcjeibgaaDoorVFrame
import Derived.Deep.QuietTactic
import Derived.BigQuiet
import Derived.IntWalk
import Derived.Deep.Cut
namespace Go.Proofs.YtbeeeakcjeibgaaDoor
open Go.ChangeShapes Go.WideShapes Go.ChangeAt Go.RowKit Go.Lib

/-- What Lex answers of any short text. -/
theorem lex_gen (s : ByteArray) (w : World) (hs : s.size ≤ 400) (hE : Env7 w) :
    Calls Tryd.prog 10 #[.string s] w fun e w' => Below w.heap.size w w' ∧ ∃ v k f, e = .returned (.tuple #[v, .int .i64 k, .int .i64 f]) := by
  cases h : lexL s.data.toList with
  | error p => exact (lex_no s p w hs h hE).mono fun e w' ⟨h1, h2⟩ => ⟨h1, _, _, _, h2⟩
  | ok ts => exact (lex_yes s ts w hs h hE).mono fun e w' ⟨h1, ao, cap, h2, _⟩ => ⟨h1, _, _, _, h2⟩
theorem tk_le {s : ByteArray} {ts : List Tk} (h : lexL s.data.toList = .ok ts) {i : Nat} {u : Tk} (hu : (ts ++ [endT s.size])[i]? = some u) : u.a ≤ s.size := by
  by_cases hi : i < ts.length
  · rw [List.getElem?_append_left hi] at hu
    obtain ⟨v, -, h1, h2, -⟩ := tk_next h hu
    omega
  · rw [List.getElem?_append_right (by omega)] at hu
    obtain ⟨h1, h2⟩ := List.getElem?_eq_some_iff.1 hu
    simp only [List.length_singleton] at h1
    have : i - ts.length = 0 := by omega
    simp only [this, List.getElem_cons_zero] at h2
    rw [← h2]; exact Nat.le_refl _
theorem blank32 : BlankB 32 := .inl rfl
/-- The tokens of the second text among all. -/
theorem join_at (ts us : List Tk) (d n m : Nat) (hm : m = n + d) (i : Nat) (u : Tk) (hu : (us ++ [endT n])[i]? = some u) : ((ts ++ us.map (Tk.sh d)) ++ [endT m])[ts.length + i]? = some ⟨u.k, u.s, u.n, u.a + d⟩ := by
  rw [List.append_assoc, List.getElem?_append_right (by omega), Nat.add_sub_cancel_left]
  have e : us.map (Tk.sh d) ++ [endT m] = (us ++ [endT n]).map (Tk.sh d) := by
    rw [List.map_append, List.map_cons, List.map_nil, hm]; rfl
  rw [e, List.getElem?_map, hu]; rfl
set_option maxHeartbeats 4000000 in
set_option maxRecDepth 100000 in
theorem lexjoin_walk (a : ByteArray) (b : ByteArray) (w : World) (_ : a.size ≤ 9223372036854775807) (_ : b.size ≤ 9223372036854775807) (hE : Env7 w) :
    Calls Tryd.prog 8 #[.string a, .string b] w fun e w' => e = .returned (.bool true) ∧ Below w.heap.size w w' := by
  by_cases ha : 190 < a.size
  · have hz : (190 : Int) < (a.size : Int) := by omega
    have hA := awake_any w hE
    clear ha
    go_enter Tryd.func8, Tryd.ntmps8
    go_wp2_with fail
    refine hA.mono ?_
    rintro e w1 ⟨rfl, b1⟩
    go_wp2
    go_ret
    exact ⟨rfl, b1⟩
  have hza : ¬ (190 : Int) < (a.size : Int) := by omega
  by_cases hb : 190 < b.size
  · have hz : (190 : Int) < (b.size : Int) := by omega
    have hA := awake_any w hE
    clear ha hb
    go_enter Tryd.func8, Tryd.ntmps8
    go_wp2_with fail
    refine hA.mono ?_
    rintro e w1 ⟨rfl, b1⟩
    go_wp2
    go_ret
    exact ⟨rfl, b1⟩
  have hzb : ¬ (190 : Int) < (b.size : Int) := by omega
  obtain ⟨C, hC⟩ : ∃ C, a ++ (⟨#[32]⟩ : ByteArray) ++ b = C := ⟨_, rfl⟩
  have hCl : C.data.toList = a.data.toList ++ 32 :: b.data.toList := by rw [← hC]; simp
  have hCs : C.size = a.size + 1 + b.size := by rw [← size_list, hCl, List.length_append, List.length_cons, size_list, size_list]; omega
  have hov1 : ¬ 9223372036854775807 < a.size + 1 := by omega
  have hov2 : ¬ 9223372036854775807 < a.size + 1 + b.size := by omega
  have HCL := Lib.hid hCl
  clear hCl
  cases hZa : lexL a.data.toList with
  | error p =>
    have cA := lex_no a p w (by omega) hZa hE
    have cB := fun w1 h => lex_gen b w1 (by omega) h
    have cC := fun w1 h => lex_gen C w1 (by omega) h
    clear hZa ha hb
    go_enter Tryd.func8, Tryd.ntmps8
    go_wp2_with fail
    refine cA.mono ?_
    rintro e w1 ⟨b1, rfl⟩
    have hE1 := hE.later b1
    clear cA
    go_wp2_with fail
    refine (cB _ hE1).mono ?_
    rintro e w2 ⟨b2, v2, k2, f2, rfl⟩
    have hE2 := hE1.later b2
    have hb2 := below_to b1 b2
    clear cB b1 b2 hE1
    go_wp2_with fail
    refine (cC _ hE2).mono ?_
    rintro e w3 ⟨b3, v3, k3, f3, rfl⟩
    have hE3 := hE2.later b3
    have hb3 := below_to hb2 b3
    have hA := awake_any w3 hE3
    clear cC b3 hb2 hE2
    go_wp2_with fail
    refine hA.mono ?_
    rintro e w4 ⟨rfl, b4⟩
    go_wp2
    go_ret
    exact ⟨rfl, below_to hb3 b4⟩
  | ok ts =>
    have cA := lex_yes a ts w (by omega) hZa hE
    have happ := lexL_app hZa blank32 b.data.toList
    rw [← HCL.out, size_list] at happ
    have hfa := lex_few hZa
    cases hZb : lexL b.data.toList with
    | error p =>
      rw [hZb] at happ
      have cB := fun w1 h => lex_no b p w1 (by omega) hZb h
      have cC := fun w1 h => lex_no C (p + (a.size + 1)) w1 (by omega) happ h
      have hpl := lexL_err hZb
      rw [size_list] at hpl
      have heq : (((p + (a.size + 1) : Nat) : Int) == (a.size : Int) + 1 + (p : Int)) = true := by
        rw [beq_iff_eq]; omega
      generalize hK : p + (a.size + 1) = K at cC heq
      clear hZa hZb happ ha hb hK
      go_enter Tryd.func8, Tryd.ntmps8
      go_wp2_with fail
      refine cA.mono ?_
      rintro e w1 ⟨b1, ao, cap, rfl, hcap, hTk⟩
      have hE1 := hE.later b1
      clear cA hTk
      go_wp2_with fail
      refine (cB _ hE1).mono ?_
      rintro e w2 ⟨b2, rfl⟩
      have hE2 := hE1.later b2
      have hb2 := below_to b1 b2
      clear cB b1 b2 hE1
      go_wp2_with fail
      refine (cC _ hE2).mono ?_
      rintro e w3 ⟨b3, rfl⟩
      have hE3 := hE2.later b3
      have hb3 := below_to hb2 b3
      have hA := awake_any w3 hE3
      clear cC b3 hb2 hE2
      go_wp2_with fail
      refine hA.mono ?_
      rintro e w4 ⟨rfl, b4⟩
      go_wp2
      go_ret
      exact ⟨rfl, below_to hb3 b4⟩
    | ok us =>
      rw [hZb] at happ
      have happ2 : lexL C.data.toList = .ok (ts ++ us.map (Tk.sh (a.size + 1))) := happ
      have cB := fun w1 h => lex_yes b us w1 (by omega) hZb h
      have cC := fun w1 h => lex_yes C _ w1 (by omega) happ2 h
      have hfb := lex_few hZb
      have HJ := Lib.hid (fun i u h => join_at ts us (a.size + 1) b.size C.size (by omega) i u h)
      have HLE := Lib.hid (fun i u (h : (us ++ [endT b.size])[i]? = some u) => tk_le hZb h)
      have HT := Lib.hid (fun i t (h : ts[i]? = some t) => tk_at ts a.size i t h)
      have HTC := Lib.hid (fun i t (h : ts[i]? = some t) => tk_at (ts ++ us.map (Tk.sh (a.size + 1))) C.size i t (by rw [List.getElem?_append_left (List.getElem?_eq_some_iff.1 h).1]; exact h))
      have hlz : (ts ++ us.map (Tk.sh (a.size + 1))).length = ts.length + us.length := by rw [List.length_append, List.length_map]
      obtain ⟨zs, hzs⟩ : ∃ zs, ts ++ us.map (Tk.sh (a.size + 1)) = zs := ⟨_, rfl⟩
      simp only [hzs] at cC HJ HTC
      have hlz2 : zs.length = ts.length + us.length := by rw [← hzs, hlz]
      simp only [hlz2] at cC
      obtain ⟨n, hn⟩ : ∃ n, ts.length = n := ⟨_, rfl⟩
      obtain ⟨m, hm⟩ : ∃ m, us.length = m := ⟨_, rfl⟩
      rw [hn] at hfa cA
      rw [hm] at hfb
      simp only [hn, hm] at cC cB HJ
      have HN := Lib.hid hn
      have HM := Lib.hid hm
      clear hZa hZb happ happ2 ha hb hlz hlz2 hzs hn hm
      go_enter Tryd.func8, Tryd.ntmps8
      go_wp2_with fail
      refine cA.mono ?_
      rintro e w1 ⟨b1, ao, cap, rfl, hcap, hTk⟩
      have hE1 := hE.later b1
      clear cA
      go_wp2_with fail
      refine (cB _ hE1).mono ?_
      rintro e w2 ⟨b2, bo, cap2, rfl, hcap2, hTk2⟩
      have hE2 := hE1.later b2
      have hb2 := below_to b1 b2
      have hTk1 := hTk.later b2
      clear cB b1 b2 hE1 hTk
      go_wp2_with fail
      refine (cC _ hE2).mono ?_
      rintro e w3 ⟨b3, co, cap3, rfl, hcap3, hTk3⟩
      have hE3 := hE2.later b3
      have hb3 := below_to hb2 b3
      have hTA := hTk1.later b3
      have hTB := hTk2.later b3
      clear cC b3 hb2 hE2 hTk1 hTk2
      obtain ⟨ga, rfl, hga, hca⟩ := hTA (by simp)
      obtain ⟨gb, rfl, hgb, hcb⟩ := hTB (by simp)
      obtain ⟨gc, rfl, hgc, hcc⟩ := hTk3 (by simp)
      have HCA := Lib.hid hca
      have HCB := Lib.hid hcb
      have HCC := Lib.hid hcc
      have HE3 := Lib.hid hE3
      have HB3 := Lib.hid hb3
      clear hTA hTB hTk3 hca hcb hcc hE3 hb3
      have hw1 : IntKind.i64.wrap ((n : Int) + 1 + ((m : Int) + 1)) = (n : Int) + 1 + ((m : Int) + 1) := IntWalk.i64_in _ (by omega)
      have hlen : (((n + m + 1 : Nat) : Int) != (n : Int) + 1 + ((m : Int) + 1) - 1) = false := by
        rw [bne_eq_false_iff_eq]; omega
      have hlen2 : ((n : Int) + (m : Int) + 1 != (n : Int) + 1 + ((m : Int) + 1) - 1) = false := by
        rw [bne_eq_false_iff_eq]; omega
      go_wp2_with fail
      go_loopg [14] (n) (fun r iv wr => ∃ i : Nat, i + r = n ∧ iv = .int .i64 (i : Int) ∧ ∃ q, wr = w3.drewN q)
      case atStart => exact ⟨0, Nat.zero_add _, rfl, 0, rfl⟩
      case round =>
        obtain ⟨i, hi, rfl, q, rfl⟩ := hrel
        by_cases hlt : i < n
        · have hiz : (i : Int) + 1 < (n : Int) + 1 := by omega
          obtain ⟨t, ht⟩ : ∃ t, ts[i]? = some t := ⟨_, List.getElem?_eq_getElem (by rw [HN.out]; exact hlt)⟩
          obtain ⟨x0, x1, x2, x3⟩ := HCA.out i t (HT.out i t ht)
          obtain ⟨y0, y1, y2, y3⟩ := HCC.out i t (HTC.out i t ht)
          have hqi := fun w => eqlIn_tok (t.k : Int) ⟨t.s.toArray⟩ (t.n : Int) (t.a : Int) (t.k : Int) ⟨t.s.toArray⟩ (t.n : Int) (t.a : Int) w
          simp only [sameT_refl] at hqi
          generalize (⟨t.s.toArray⟩ : ByteArray) = S at *
          generalize (t.k : Int) = K at *
          generalize (t.n : Int) = N at *
          generalize (t.a : Int) = A at *
          have HI := Lib.hid hi
          have hx1 : (i : Int) < (n : Int) + 1 := by omega
          have hx3 : i < n + 1 := by omega
          have hx4 : (i : Int) < (n : Int) + (m : Int) + 1 := by omega
          have hx5 : i < n + m + 1 := by omega
          clear ht
          go_wp2_with fail
          go_quiet (fail)
          go_wp2_with fail
          go_roundg (gk - 1)
          case measure => have := HI.out; omega
          case rel => exact ⟨i + 1, by have := HI.out; omega, by go_num, _, rfl⟩
        · have hiz : ¬ (i : Int) + 1 < (n : Int) + 1 := by omega
          go_wp2_with fail
          clear hi hiz hlen hlen2 hw1
          go_loopg [15] (m + 1) (fun r iv wr => ∃ i : Nat, i + r = m + 1 ∧ iv = .int .i64 (i : Int) ∧ Hid (Below w3.heap.size w3 wr))
          case atStart => exact ⟨0, Nat.zero_add _, rfl, Lib.hid (below_q (Below.refl _ _) q)⟩
          case round =>
            obtain ⟨j, hj, rfl, HBR⟩ := hrel
            by_cases hlt2 : j < m + 1
            · have hjz : (j : Int) < (m : Int) + 1 := by omega
              obtain ⟨u, hu⟩ : ∃ u, (us ++ [endT b.size])[j]? = some u := ⟨_, List.getElem?_eq_getElem (by rw [List.length_append, List.length_singleton, HM.out]; exact hlt2)⟩
              obtain ⟨y0, y1, y2, y3⟩ := HCB.out j u hu
              obtain ⟨x0, x1, x2, x3⟩ := HCC.out (n + j) _ (HJ.out j u hu)
              have hule := HLE.out j u hu
              have hqi := fun w => eqlIn_tok (u.k : Int) ⟨u.s.toArray⟩ (u.n : Int) (u.a : Int) (u.k : Int) ⟨u.s.toArray⟩ (u.n : Int) (u.a : Int) w
              simp only [sameT_refl] at hqi
              dsimp only at x0 x1 x2 x3
              have y0 := (HBR.out.cell (p := ⟨gb, j * 4, none⟩) hgb).trans y0
              have y1 := (HBR.out.cell (p := ⟨gb, j * 4 + 1, none⟩) hgb).trans y1
              have y2 := (HBR.out.cell (p := ⟨gb, j * 4 + 2, none⟩) hgb).trans y2
              have y3 := (HBR.out.cell (p := ⟨gb, j * 4 + 3, none⟩) hgb).trans y3
              have x0 := (HBR.out.cell (p := ⟨gc, (n + j) * 4, none⟩) hgc).trans x0
              have x1 := (HBR.out.cell (p := ⟨gc, (n + j) * 4 + 1, none⟩) hgc).trans x1
              have x2 := (HBR.out.cell (p := ⟨gc, (n + j) * 4 + 2, none⟩) hgc).trans x2
              have x3 := (HBR.out.cell (p := ⟨gc, (n + j) * 4 + 3, none⟩) hgc).trans x3
              obtain ⟨A2, hA2⟩ : ∃ A2 : Int, ((u.a + (a.size + 1) : Nat) : Int) = A2 := ⟨_, rfl⟩
              rw [hA2] at x3
              obtain ⟨A, hA⟩ : ∃ A : Int, (u.a : Int) = A := ⟨_, rfl⟩
              rw [hA] at y3
              simp only [hA] at hqi
              have hsub : A2 - (a.size : Int) - 1 = A := by omega
              have hA20 : 0 ≤ A2 := by omega
              have hA21 : A2 ≤ 400 := by omega
              have hwj : IntKind.i64.wrap ((n : Int) + (j : Int)) = (n : Int) + (j : Int) := IntWalk.i64_in _ (by omega)
              have hj0 : (0 : Int) ≤ (n : Int) + (j : Int) := by omega
              have hj1 : ((n : Int) + (j : Int)).toNat = n + j := by omega
              have hj2 : (n : Int) + (j : Int) < (n : Int) + (m : Int) + 1 := by omega
              have hj3 : n + j < n + m + 1 := by omega
              have hj4 : j < m + 1 := hlt2
              generalize (⟨u.s.toArray⟩ : ByteArray) = S at *
              generalize (u.k : Int) = K at *
              generalize (u.n : Int) = N at *
              have HJJ := Lib.hid hj
              clear hu hA hA2 hule hj
              go_upto_region 22 with fail
              have hgb2 : gb < wr.heap.size := Nat.lt_of_lt_of_le hgb HBR.out.size
              go_wp2_with fail
              go_quiet (fail)
              go_wp2_with fail
              go_roundg (gk - 1)
              case measure => have := HJJ.out; omega
              case rel => exact ⟨j + 1, by have := HJJ.out; omega, by go_num, Lib.hid (below_q (HBR.out.alloc HBR.out.size _) _)⟩
            · have hjz : ¬ (j : Int) < (m : Int) + 1 := by omega
              have hA := awake_any wr (HE3.out.later HBR.out)
              go_wp2_with fail
              refine hA.mono ?_
              rintro e w4 ⟨rfl, b4⟩
              go_wp2
              go_ret
              exact ⟨rfl, below_to (below_to HB3.out HBR.out) b4⟩
set_option maxRecDepth 1000000 in
theorem lexjoin_lifted (os : Os) (started : os.Started) (H : Type) (enc : TypeId × Value → H) :
    ReturnsInHanded {} Tryd.checked os 8 .any (fun w args => (Rows.lexJoinSpec.pre enc Tryd.prog Tryd.f8 [] false w args ∧ laidMetH Tryd.prog tabsLaid7 w) ∧ sizedMet enc Tryd.prog Tryd.f8 (OpenSpec.ofChange Rows.lexJoinSpec) false w args)
      (Rows.lexJoinSpec.post enc Tryd.prog Tryd.f8 false true false false) := by
  refine returnsInHanded_of_change_and (C := Tryd.checked) (X := fun w _ => laidMetH Tryd.prog tabsLaid7 w) (fun _ _ _ hh h => h.of_heap hh) own started (by kernel_rfl) Tryd.func8
    (ChangeSpec.witness_shaped (enc := enc) (C := Tryd.checked) (os := os) (X := fun w _ => laidMetH Tryd.prog tabsLaid7 w) false (World.laidAll Tryd.prog os tabsLaid7) #[.string ⟨#[]⟩, .string ⟨#[]⟩] 8 (World.laidAll_os _ _ _)
      (World.shaped_of_ZipB (by kernel_rfl) (by kernel_rfl)) (by kernel_rfl) (by kernel_rfl) (by kernel_rfl) (start_met7 os _)) ?_
  intro W base args ds gs before hval0 hW _ hsz0 hL _
  have hsz := hsz0
  have hval : ∀ (j : Nat) t v, Tryd.f8.params[j]? = some t → args[j]? = some v → Value.okWide Tryd.prog W .any base t v := hval0
  have hW' := hW
  obtain ⟨p, q, hA0, hV, rfl, _, _⟩ := hW
  have hA : DataW.TrodAll enc Tryd.prog W 0 (fun _ => true) true Tryd.f8.params.toList args.toList ds p := hA0
  rw [Tryd.params8] at hA hval
  obtain ⟨v0, v1, d0, d1, p0, p1, rfl, rfl, rfl, h0, h1⟩ := trodAll_two hA
  obtain ⟨rfl, rfl⟩ := trodVars_none hV
  obtain ⟨x0, rfl, rfl, rfl, wx0⟩ := Go.ChangeMaps.open_string Tryd.underlying9 (hval 0 9 v0 rfl rfl) h0
  have rx0 : x0.size ≤ 9223372036854775807 := by have := wx0; unfold maxLen at this; omega
  obtain ⟨x1, rfl, rfl, rfl, wx1⟩ := Go.ChangeMaps.open_string Tryd.underlying9 (hval 1 9 v1 rfl rfl) h1
  have rx1 : x1.size ≤ 9223372036854775807 := by have := wx1; unfold maxLen at this; omega
  simp only [List.append_nil] at hW'
  refine (lexjoin_walk x0 x1 W rx0 rx1 (env7_of_laid hL)).mono fun e W' ⟨he, hb⟩ => ?_
  subst he
  exact ⟨_, rfl, _, _, _, [], _, [], hW', trodAll_mk1 (shut_bool Tryd.underlying4 _), trodAll_mk2 (Go.ChangeMaps.shut_string Tryd.underlying9 wx0) (Go.ChangeMaps.shut_string Tryd.underlying9 wx1), rfl, hb.frame _, fun h => by cases h⟩

theorem lexjoin_holds : Rows.LexJoinSaid :=
  OpenClaim.holds_of_wide 8 Tryd.f8 rfl rfl rfl rfl rfl rfl rfl ⟨rfl, rfl, rfl, rfl, rfl⟩ rfl rfl rfl rfl rfl (by kernel_rfl) Tryd.func8 (by kernel_rfl)
    (of_decide_eq_true (by kernel_rfl)) (by unfold Func.isWrapper; first | (rw [if_pos (by decide +kernel)]; kernel_rfl) | (rw [if_neg (by decide +kernel)]; exact ⟨rfl, rfl⟩))
    (fun os started H enc _ => lexjoin_lifted os started H enc)

theorem lexjoin_card : Rows.LexJoinCardSaid :=
  Claim7.holds_tied_plain_at .later [] [.data, .data, .data, .data, .sentinel, .sentinel, .pinned] true _ true
    lexjoin_holds (fun _ h => by cases h) (by kernel_rfl) (fun _ h => by cases h) lexJoin_row_tie rfl ⟨rfl, rfl⟩ (by kernel_rfl) rfl
    (fun f fn hf hfn => by
      obtain rfl : f = 8 := Option.some.inj ((show Tryd.prog.funcNamed "palaver/palaverlaw06.LexJoin" = some 8 by kernel_rfl).symm.trans hf) |>.symm
      obtain rfl : fn = Tryd.f8 := (Option.some.inj (Tryd.func8.symm.trans hfn)).symm
      exact ⟨by kernel_rfl, fun j t ht => by
        rw [Tryd.params8] at ht
        have hm : t ∈ [9, 9] := by simpa using Array.mem_of_getElem? ht
        have hall : ([9, 9].all fun u => !Tryd.prog.wantsStandIn u) = true := by kernel_rfl
        exact (show Tryd.prog.wantsStandIn t = false by simpa using List.all_eq_true.1 hall t hm)⟩)
    (by kernel_rfl)
end Go.Proofs.YtbeeeakcjeibgaaDoor
