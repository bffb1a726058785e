/- The statement EvalNames: what an expression comes to hangs on the values of its names alone. Conditions: none but what the card ties (the library's variables, and the table of forms, hold what their texts lay). -/
import Derived.Test.YtaaibciacipelaaGreatDoorHB
import Derived.Test.YtaaibciacipelaaGreatDoorGE
import Derived.Test.YtaaibciacipelaaGreatDoorMFew9
import Derived.Test.YtaaibciacipelaaGreatDoorGX
import Derived.Test.YtaaibciacipelaaGreatDoorHF
import Derived.Test.YtaaibciacipelaaGreatDoorMEvNm
import Derived.BigQuiet
namespace Go.Proofs.YtaaibciacipelaaGreatDoor
open Go.RowKit

/-- Whether it is among them. -/
def InB (H : Bool) (x : ByteArray) (l : List ByteArray) : Prop := H = true ↔ x ∈ l
/-- While the values of other names are turned: what the values are. -/
def KNs (w wr : World) (B : Option Addr) (n : Nat) (e : Ex) (L : List ByteArray) (V : List Va) : Prop :=
  ∃ W : List Va, W.length = n ∧ V.length = n ∧ OV wr w.heap.size B W ∧ Below w.heap.size w wr ∧ (∀ (s : ByteArray) (i : Nat), s ∈ nmE e → L[i]? = some s → V[i]? = W[i]?) ∧ ∀ x ∈ W, In64 x.n ∧ x.s.length ≤ reachBytes
theorem eq_val {R : Va} (w : World) : (binOp .eql 41 (vaV R) (vaV R)).run Tryz.prog w = .ok (.bool true) w := same_yes _ _ _ w
set_option maxHeartbeats 16000000 in
set_option maxRecDepth 1000000 in
theorem evalnames_walk (v0 : Value) (e : Ex) (A : Option Addr) (L : List ByteArray) (cA : Nat) (B : Option Addr) (V : List Va) (cB : Nat) (C : Option Addr) (U : List Va) (cC : Nat) (w : World) (he : ExIn w (fun _ => True) e v0)
    (_lA : L.length ≤ cA) (mA : L.length ≤ 140737488351232) (hN : Ts w A L) (_qA : A = none → cA = 0) (_lB : V.length ≤ cB) (mB : V.length ≤ 4398046511104) (hV : Vs w B V) (hx : ∀ x ∈ V, In64 x.k ∧ In64 x.n ∧ x.s.length ≤ reachBytes) (qB : B = none → cB = 0)
    (_lC : U.length ≤ cC) (mC : U.length ≤ 4398046511104) (hU : Vs w C U) (hy : ∀ x ∈ U, In64 x.k ∧ In64 x.n ∧ x.s.length ≤ reachBytes) (_qC : C = none → cC = 0) (hE0 : EnvP w) :
    Calls Tryz.prog 6 #[v0, .slice A L.length cA, .slice B V.length cB, .slice C U.length cC] w fun en w' => en = .returned (.bool true) ∧ Below w.heap.size w w' := by
  have hK : Knows w L V A B := ⟨hN, hV, hE0.env.tabs, by omega, by omega, fun v hv => by have := (hx v hv).2.2; unfold reachBytes at this; omega, fun v hv => (hx v hv).2.1⟩
  have HXV := Lib.hid (show ∀ x ∈ V, In64 x.n ∧ x.s.length ≤ reachBytes from fun x h => (hx x h).2)
  have HYU := Lib.hid (show ∀ x ∈ U, In64 x.n ∧ x.s.length ≤ reachBytes from fun x h => (hy x h).2)
  have HQB := Lib.hid qB
  obtain ⟨ao, cap, rfl, -⟩ := he.get
  have d1 := below_alloc w (.cells #[.int .i64 e.op, .int .i64 e.num, .string ⟨e.str.toArray⟩, .slice ao e.kids.length cap] 24)
  have x1 := four_new w (.int .i64 e.op) (.int .i64 e.num) (.string ⟨e.str.toArray⟩) (.slice ao e.kids.length cap) 24
  have h0 := he.later d1
  have hk := hK.later d1
  have hu := hU.below d1
  have hE2 := hE0.later d1
  obtain ⟨w0, hw0⟩ : ∃ x, w.alloc (.cells #[.int .i64 e.op, .int .i64 e.num, .string ⟨e.str.toArray⟩, .slice ao e.kids.length cap] 24) = x := ⟨_, rfl⟩
  rw [hw0] at x1 d1 h0 hk hu hE2
  have HX0 := Lib.hid x1
  have HV0 := Lib.hid h0
  have HK := Lib.hid hk
  have HU := Lib.hid hu
  have HEE := Lib.hid hE2
  have HB0 := Lib.hid d1
  obtain ⟨-, y0, y1, y2, y3, -⟩ := x1
  clear d1 h0 hk hu hE2 hE0 he hN hV hU hK mA hx hy _lA _qA _lB qB _lC _qC
  go_enter Tryz.func6, Tryz.ntmps6
  go_wp2_with fail
  (with_reducible refine (tinyE_any e _ _ w0 HV0.out).mono ?_)
  rintro en w1 ⟨b, rfl, d, hb⟩
  have B1 := Lib.hid d
  have HND := Lib.hid hb
  clear d y0 y1 y2 y3 hw0 hb
  cases b with
  | false =>
    have caw := evawake_any w1 (HEE.out.later (B1.out))
    go_wp2_with fail
    (with_reducible refine caw.mono ?_)
    rintro en wz ⟨rfl, bz⟩
    have HBF := Lib.hid (below_to (below_to HB0.out (B1.out)) bz)
    clear bz caw
    go_wp2_with fail
    go_ret
    exact ⟨rfl, HBF.out⟩
  | true =>
    have cc := rcheck_any e _ _ w1 (HEE.out.later B1.out) (HV0.out.later B1.out)
    obtain ⟨-, y0, y1, y2, y3, -⟩ := HX0.out.later B1.out
    cases hce : chkB e with
    | false =>
      rw [hce] at cc
      clear hce
      go_wp2_with fail
      (with_reducible refine cc.mono ?_)
      rintro en w2 ⟨rfl, d⟩
      have B2 := Lib.hid (below_to B1.out d)
      clear d cc y0 y1 y2 y3
      have caw := evawake_any w2 (HEE.out.later (B2.out))
      go_wp2_with fail
      (with_reducible refine caw.mono ?_)
      rintro en wz ⟨rfl, bz⟩
      have HBF := Lib.hid (below_to (below_to HB0.out (B2.out)) bz)
      clear bz caw
      go_wp2_with fail
      go_ret
      exact ⟨rfl, HBF.out⟩
    | true =>
      rw [hce] at cc
      clear hce
      go_wp2_with fail
      (with_reducible refine cc.mono ?_)
      rintro en w2 ⟨rfl, d⟩
      have B2 := Lib.hid (below_to B1.out d)
      clear d cc y0 y1 y2 y3
      have cc := few9_any L V A B cA cB w2 (HK.out.later B2.out).vals
      go_wp2_with fail
      (with_reducible refine cc.mono ?_)
      rintro en w5 ⟨⟨b, rfl, hb⟩, rfl⟩
      have HF := Lib.hid hb
      clear cc hb
      cases b with
      | false =>
        have caw := evawake_any w2 (HEE.out.later (B2.out))
        go_wp2_with fail
        (with_reducible refine caw.mono ?_)
        rintro en wz ⟨rfl, bz⟩
        have HBF := Lib.hid (below_to (below_to HB0.out (B2.out)) bz)
        clear bz caw
        go_wp2_with fail
        go_ret
        exact ⟨rfl, HBF.out⟩
      | true =>
        have cc : Calls Tryz.prog 16 #[.slice none 0 0, .slice C U.length cC] w2 (Few9End [] U w2) := few9_any [] U none C 0 cC w2 (HU.out.below B2.out)
        go_wp2_with fail
        (with_reducible refine cc.mono ?_)
        rintro en w5 ⟨⟨b, rfl, -⟩, rfl⟩
        clear cc
        cases b with
        | false =>
          have caw := evawake_any w2 (HEE.out.later (B2.out))
          go_wp2_with fail
          (with_reducible refine caw.mono ?_)
          rintro en wz ⟨rfl, bz⟩
          have HBF := Lib.hid (below_to (below_to HB0.out (B2.out)) bz)
          clear bz caw
          go_wp2_with fail
          go_ret
          exact ⟨rfl, HBF.out⟩
        | true =>
          by_cases hvl : V.length = L.length
          case neg =>
            have hvb : ((V.length : Int) != (L.length : Int)) = true := by simp; omega
            have hvn : ¬ (V.length : Int) = (L.length : Int) := by omega
            clear hvl
            have caw := evawake_any w2 (HEE.out.later (B2.out))
            go_wp2_with fail
            (with_reducible refine caw.mono ?_)
            rintro en wz ⟨rfl, bz⟩
            have HBF := Lib.hid (below_to (below_to HB0.out (B2.out)) bz)
            clear bz caw
            go_wp2_with fail
            go_ret
            exact ⟨rfl, HBF.out⟩
          case pos =>
            have hvb : ((V.length : Int) != (L.length : Int)) = false := by simp; omega
            have HVL := Lib.hid hvl
            clear hvl
            by_cases hul : U.length < L.length
            case pos =>
              have hub : decide ((U.length : Int) < (L.length : Int)) = true := by simp; omega
              have caw := evawake_any w2 (HEE.out.later (B2.out))
              go_wp2_with fail
              (with_reducible refine caw.mono ?_)
              rintro en wz ⟨rfl, bz⟩
              have HBF := Lib.hid (below_to (below_to HB0.out (B2.out)) bz)
              clear bz caw
              go_wp2_with fail
              go_ret
              exact ⟨rfl, HBF.out⟩
            case neg =>
              have hub : decide ((U.length : Int) < (L.length : Int)) = false := by simp; omega
              have HUL := Lib.hid hul
              have hfew := HF.out (by trivial)
              have c3 := names_any e _ _ w2 (by have := (HND.out (by trivial)).1; omega) (HV0.out.later B2.out)
              obtain ⟨-, y0, y1, y2, y3, -⟩ := HX0.out.later B2.out
              go_wp2_with fail
              (with_reducible refine c3.mono ?_)
              rintro en w3 ⟨d, v3, M, rfl, hM, hml, hmem⟩
              have HMB := Lib.hid (show M.length ≤ 1000 by have := nm_len e; have := (HND.out (by trivial)).1; omega)
              have B3 := Lib.hid (below_to B2.out d)
              obtain ⟨am, cm, rfl, hM3⟩ := hM.cap
              have HM := Lib.hid hM3
              have HMEM := Lib.hid hmem
              have c4 := vals_any B V cB w3 (by omega) (HK.out.later B3.out).vals HQB.out
              clear d c3 y0 y1 y2 y3 hM3 hmem hM hml hul hub hvb
              go_wp2_with fail
              (with_reducible refine c4.mono ?_)
              rintro en w4 ⟨D, cD, rfl, hO, d⟩
              have B4 := Lib.hid (below_to B3.out d)
              have HW4 : Hid (KNs w3 w4 D V.length e L V) := Lib.hid ⟨V, rfl, rfl, hO, d, fun _ _ _ _ => rfl, HXV.out⟩
              have HUL2 := Lib.hid (show L.length ≤ U.length by have := HUL.out; omega)
              have HLB := Lib.hid (show L.length ≤ 1000 by omega)
              have HBM := Lib.hid (show Below w0.heap.size w0 w3 from B3.out)
              clear c4 hO d hfew
              go_wp2_with fail
              go_loopg [11, 12, 13] (L.length) (fun q s11 s12 s13 wr => ∃ i : Nat, i + q = L.length ∧ s11 = .int .i64 (i : Int) ∧ Hid (KNs w3 wr D V.length e L V))
              case atStart => exact ⟨0, by omega, rfl, HW4⟩
              case round =>
                obtain ⟨i, hiq, rfl, HW⟩ := hrel
                have HIQ := Lib.hid hiq
                clear HW4
                have hLb := HLB.out
                obtain ⟨G, hG⟩ : ∃ G, G = gk := ⟨_, rfl⟩
                subst hG
                by_cases hi : i < L.length
                · have hiz : (i : Int) < (L.length : Int) := by omega
                  have hi0 : (0 : Int) ≤ (i : Int) := by omega
                  obtain ⟨W5, hW5⟩ : ∃ W5, W5 = wr := ⟨_, rfl⟩
                  subst hW5
                  have HBW := Lib.hid (show Below w3.heap.size w3 W5 from by obtain ⟨W, -, -, -, h, -⟩ := HW.out; exact h)
                  obtain ⟨nm, hnm⟩ : ∃ nm, L[i]? = some nm := ⟨_, List.getElem?_eq_getElem hi⟩
                  have HNM := Lib.hid hnm
                  clear hiq hnm
                  go_wp2_with fail
                  go_loopg [12, 13] (M.length) (fun q s12 s13 wz => ∃ (k : Nat) (H : Bool), k + q = M.length ∧ s13 = .int .i64 (k : Int) ∧ s12 = .bool H ∧ Hid (InB H nm (M.take k)) ∧ Hid (Below W5.heap.size W5 wz))
                  case atStart => exact ⟨0, false, by omega, rfl, rfl, Lib.hid (by unfold InB; simp), Lib.hid (Below.refl _ _)⟩
                  case round =>
                    obtain ⟨k, H, hkq, rfl, rfl, HH, HBZ⟩ := hrel
                    have HKQ := Lib.hid hkq
                    have hMb := HMB.out
                    by_cases hk : k < M.length
                    · have hkz : (k : Int) < (M.length : Int) := by omega
                      have hk0 : (0 : Int) ≤ (k : Int) := by omega
                      obtain ⟨bm, om, rfl, hcm⟩ := HM.out (by omega)
                      have hcell := (below_to HBW.out HBZ.out).cell (p := ⟨bm, om + k, none⟩) (World.block_lt_of_cell? w3 _ (hcm k hk)) |>.trans (hcm k hk)
                      rw [List.getD_eq_getElem?_getD, List.getElem?_eq_getElem hk, Option.getD_some] at hcell
                      obtain ⟨bn, on, rfl, hcn⟩ := ((HK.out.later B3.out).later (below_to HBW.out HBZ.out)).names (by omega)
                      have hceln := hcn i hi
                      rw [List.getD_eq_getElem?_getD, HNM.out, Option.getD_some] at hceln
                      have HTK := Lib.hid (show M.take (k + 1) = M.take k ++ [M[k]] by rw [List.take_add_one, List.getElem?_eq_getElem hk]; rfl)
                      generalize M[k] = x at *
                      clear hcm hcn hkq
                      cases H with
                      | true =>
                        have HN : Hid (InB true nm (M.take (k + 1))) := Lib.hid ⟨fun _ => by rw [HTK.out]; exact List.mem_append_left _ (HH.out.1 rfl), fun _ => rfl⟩
                        clear HH
                        go_wp2_with fail
                        go_quiet (fail)
                        have HB2 := fun n => Lib.hid (below_dr HBZ.out n)
                        go_wp2_with fail
                        go_roundg (M.length - (k + 1))
                        case measure => have := HKQ.out; omega
                        case rel => exact ⟨k + 1, true, by have := HKQ.out; omega, by go_num, rfl, HN, HB2 _⟩
                      | false =>
                        by_cases hxn : x = nm
                        · subst hxn
                          have hqq : (x.toList == x.toList) = true := by simp
                          have HN : Hid (InB true x (M.take (k + 1))) := Lib.hid ⟨fun _ => by rw [HTK.out]; exact List.mem_append_right _ (List.mem_singleton.2 rfl), fun _ => rfl⟩
                          clear HH
                          go_wp2_with fail
                          go_quiet (fail)
                          have HB2 := fun n => Lib.hid (below_dr HBZ.out n)
                          go_wp2_with fail
                          go_roundg (M.length - (k + 1))
                          case measure => have := HKQ.out; omega
                          case rel => exact ⟨k + 1, true, by have := HKQ.out; omega, by go_num, rfl, HN, HB2 _⟩
                        · have hqq : (x.toList == nm.toList) = false := txt_ne hxn
                          have HN : Hid (InB false nm (M.take (k + 1))) := Lib.hid ⟨fun h => (by cases h), fun h => by
                            rw [HTK.out] at h
                            rcases List.mem_append.1 h with h | h
                            · exact HH.out.2 h
                            · exact absurd (List.mem_singleton.1 h).symm hxn⟩
                          clear HH
                          go_wp2_with fail
                          go_quiet (fail)
                          have HB2 := fun n => Lib.hid (below_dr HBZ.out n)
                          go_wp2_with fail
                          go_roundg (M.length - (k + 1))
                          case measure => have := HKQ.out; omega
                          case rel => exact ⟨k + 1, false, by have := HKQ.out; omega, by go_num, rfl, HN, HB2 _⟩
                    · have hkz : ¬ (k : Int) < (M.length : Int) := by omega
                      have HN : Hid (InB H nm M) := Lib.hid (by have := HH.out; rwa [List.take_of_length_le (by omega)] at this)
                      have HWW : Hid (KNs w3 wr D V.length e L V) := Lib.hid (by
                        obtain ⟨W, h1, h2, h3, h4, h5, h6⟩ := HW.out
                        exact ⟨W, h1, h2, h3.later HBZ.out, below_to h4 HBZ.out, h5, h6⟩)
                      clear hkq HH HW
                      cases H with
                      | true =>
                        go_wp2_with fail
                        go_roundg (L.length - (i + 1))
                        case measure => have := HIQ.out; omega
                        case rel => exact ⟨i + 1, by have := HIQ.out; omega, by go_num, HWW⟩
                      | false =>
                        have HNOT := Lib.hid (show nm ∉ M from fun h => by have := HN.out.2 h; cases this)
                        obtain ⟨W, h1, h2, h3, h4, h5, h6⟩ := HWW.out
                        have hiW : i < W.length := by have := HVL.out; omega
                        have hiU : i < U.length := by have := HUL2.out; omega
                        have hiWz : (i : Int) < (V.length : Int) := by omega
                        have hiUz : (i : Int) < (U.length : Int) := by omega
                        obtain ⟨g, rfl, hg, hn, hc⟩ := h3 (by omega)
                        obtain ⟨z, hz⟩ : ∃ z, W[i]? = some z := ⟨_, List.getElem?_eq_getElem hiW⟩
                        obtain ⟨z0, z1, z2⟩ := hc i z hz
                        have f0 := (hn.weak (i * 3)).2
                        have f1 := (hn.weak (i * 3 + 1)).2
                        have f2 := (hn.weak (i * 3 + 2)).2
                        obtain ⟨gu, ou, rfl, hcu⟩ := (((HU.out.below B3.out).below h4)) (by omega)
                        obtain ⟨a, ha⟩ : ∃ a, U[i]? = some a := ⟨_, List.getElem?_eq_getElem hiU⟩
                        obtain ⟨u0, u1, u2⟩ := hcu i a ha
                        have HR : Hid (KNs w3 (setVa wr g i a) (some ⟨g, 0, none⟩) V.length e L V) := Lib.hid ⟨W.set i a, by rw [List.length_set]; exact h1, h2, OV.set (fun _ => ⟨g, rfl, hg, hn, hc⟩) hiW a, ((h4.setCell (p := ⟨g, i * 3, none⟩) hg _).setCell (p := ⟨g, i * 3 + 1, none⟩) hg _).setCell (p := ⟨g, i * 3 + 2, none⟩) hg _, fun s j hs hj => by
                          by_cases hji : j = i
                          · subst hji
                            rw [HNM.out] at hj
                            injection hj with hj
                            subst hj
                            exact absurd ((HMEM.out _).2 hs) HNOT.out
                          · rw [List.getElem?_set_ne (Ne.symm hji)]
                            exact h5 s j hs hj, fun x hx => by
                          rcases List.mem_or_eq_of_mem_set hx with h | rfl
                          · exact h6 x h
                          · exact HYU.out _ (List.mem_of_getElem? ha)⟩
                        unfold setVa at HR
                        clear h3 h4 h5 h6 hc hcu hz ha HWW HN hn
                        go_wp2_with fail
                        go_roundg (L.length - (i + 1))
                        case measure => have := HIQ.out; omega
                        case rel => exact ⟨i + 1, by have := HIQ.out; omega, by go_num, HR⟩
                · have hiz : ¬ (i : Int) < (L.length : Int) := by omega
                  obtain ⟨W, h1, h2, h3, h4, h5, h6⟩ := HW.out
                  have BR := Lib.hid (below_to B3.out h4)
                  have HWK : Hid (Knows wr L W A D) := Lib.hid ⟨(HK.out.later BR.out).names, h3.vs, (HK.out.later BR.out).tabs, HK.out.ln, by have := HK.out.lv; omega, fun v hv => by have := (h6 v hv).2; unfold reachBytes at this; omega, fun v hv => (h6 v hv).1⟩
                  have hev : evA L V e = evA L W e := evA_congr (by omega) h5
                  have kA : ∀ wz, Below wr.heap.size wr wz → Calls Tryz.prog 20 #[EV e.op e.num ⟨e.str.toArray⟩ (.slice ao e.kids.length cap), .slice A L.length cA, .slice B V.length cB] wz fun en w' => en = .returned (vaV (evA L V e)) ∧ Below wz.heap.size wz w' := fun wz hb => eval_all L V A B cA cB e _ _ wz (HEE.out.later (below_to BR.out hb)) (HV0.out.later (below_to BR.out hb)) (HK.out.later (below_to BR.out hb))
                  have kB : ∀ wz, Below wr.heap.size wr wz → Calls Tryz.prog 20 #[EV e.op e.num ⟨e.str.toArray⟩ (.slice ao e.kids.length cap), .slice A L.length cA, .slice D W.length cD] wz fun en w' => en = .returned (vaV (evA L W e)) ∧ Below wz.heap.size wz w' := fun wz hb => eval_all L W A D cA cD e _ _ wz (HEE.out.later (below_to BR.out hb)) (HV0.out.later (below_to BR.out hb)) (HWK.out.later hb)
                  rw [← hev] at kB
                  rw [h1] at kB
                  have ye := fun wz => eq_val (R := evA L V e) wz
                  generalize evA L V e = R at *
                  obtain ⟨K, n, s⟩ := R
                  unfold vaV at kA kB ye
                  dsimp only at kA kB ye
                  clear h1 h2 h3 h4 h5 h6 hev HW hiq HWK
                  go_wp2_with fail
                  refine wp_region_held_drew (S := fun w' => Below wr.heap.size wr w') (by kernel_rfl) ((Below.refl _ _).drew) (fun hHeld => ?_)
                  refine held_take (i := 0) (v := ?_) rfl (by kernel_rfl) (by kernel_rfl) (by kernel_rfl) (fun _ _ _ h => h) (by rfl) hHeld ?_ ?_
                  rotate_left
                  · intro wz hSz; obtain ⟨-, q0, q1, q2, q3, -⟩ := HX0.out.later (below_to BR.out hSz); go_simp; try with_reducible rfl
                  simp only [Act.put, List.setIfInBounds_toArray, List.set_cons_zero, List.set_cons_succ]
                  refine held_take (i := 1) (v := ?_) rfl (by kernel_rfl) (by kernel_rfl) (by kernel_rfl) (fun _ _ _ h => h) (by rfl) hHeld ?_ ?_
                  rotate_left
                  · intro wz hSz; go_simp; try with_reducible rfl
                  simp only [Act.put, List.setIfInBounds_toArray, List.set_cons_zero, List.set_cons_succ]
                  refine held_take (i := 2) (v := ?_) rfl (by kernel_rfl) (by kernel_rfl) (by kernel_rfl) (fun _ _ _ h => h) (by rfl) hHeld ?_ ?_
                  rotate_left
                  · intro wz hSz; go_simp; try with_reducible rfl
                  simp only [Act.put, List.setIfInBounds_toArray, List.set_cons_zero, List.set_cons_succ]
                  refine held_take (i := 4) (v := ?_) rfl (by kernel_rfl) (by kernel_rfl) (by kernel_rfl) (fun _ _ _ h => h) (by rfl) hHeld ?_ ?_
                  rotate_left
                  · intro wz hSz; obtain ⟨-, q0, q1, q2, q3, -⟩ := HX0.out.later (below_to BR.out hSz); go_simp; try with_reducible rfl
                  simp only [Act.put, List.setIfInBounds_toArray, List.set_cons_zero, List.set_cons_succ]
                  refine held_take (i := 5) (v := ?_) rfl (by kernel_rfl) (by kernel_rfl) (by kernel_rfl) (fun _ _ _ h => h) (by rfl) hHeld ?_ ?_
                  rotate_left
                  · intro wz hSz; go_simp; try with_reducible rfl
                  simp only [Act.put, List.setIfInBounds_toArray, List.set_cons_zero, List.set_cons_succ]
                  refine held_take (i := 6) (v := ?_) rfl (by kernel_rfl) (by kernel_rfl) (by kernel_rfl) (fun _ _ _ h => h) (by rfl) hHeld ?_ ?_
                  rotate_left
                  · intro wz hSz; go_simp; try with_reducible rfl
                  simp only [Act.put, List.setIfInBounds_toArray, List.set_cons_zero, List.set_cons_succ]
                  refine held_call (i := 3) (by kernel_rfl) rfl (by rfl) (by go_simp; try with_reducible rfl) (kA _ hHeld) ?_
                  rintro e wy ⟨rfl, hy⟩
                  refine ⟨_, rfl, below_to hHeld hy, ?_⟩
                  replace hHeld := below_to hHeld hy
                  simp only [Act.put, List.setIfInBounds_toArray, List.set_cons_zero, List.set_cons_succ]
                  refine held_call (i := 7) (by kernel_rfl) rfl (by rfl) (by go_simp; try with_reducible rfl) (kB _ hHeld) ?_
                  rintro e wy ⟨rfl, hy⟩
                  refine ⟨_, rfl, below_to hHeld hy, ?_⟩
                  replace hHeld := below_to hHeld hy
                  simp only [Act.put, List.setIfInBounds_toArray, List.set_cons_zero, List.set_cons_succ]
                  refine held_take (i := 8) (v := .bool true) rfl (by kernel_rfl) (by kernel_rfl) (by kernel_rfl) (fun _ _ _ h => h) (by rfl) hHeld ?_ ?_
                  · intro wz hSz; (have ye := ye wz; go_simp; first | done | rfl | exact ye)
                  simp only [Act.put, List.setIfInBounds_toArray, List.set_cons_zero, List.set_cons_succ]
                  refine held_take (i := 9) (v := ?_) rfl (by kernel_rfl) (by kernel_rfl) (by kernel_rfl) (fun _ _ _ h => h) (by rfl) hHeld ?_ ?_
                  rotate_left
                  · intro wz hSz; go_simp; try with_reducible rfl
                  simp only [Act.put, List.setIfInBounds_toArray, List.set_cons_zero, List.set_cons_succ]
                  refine held_call (i := 10) (by kernel_rfl) rfl (by rfl) (by go_simp; try with_reducible rfl) (evawake_any _ (HEE.out.later (below_to BR.out hHeld))) ?_
                  rintro e wy ⟨rfl, hy⟩
                  refine ⟨_, rfl, below_to hHeld hy, ?_⟩
                  replace hHeld := below_to hHeld hy
                  simp only [Act.put, List.setIfInBounds_toArray, List.set_cons_zero, List.set_cons_succ]
                  refine held_take (i := 11) (v := ?_) rfl (by kernel_rfl) (by kernel_rfl) (by kernel_rfl) (fun _ _ _ h => h) (by rfl) hHeld ?_ ?_
                  rotate_left
                  · intro wz hSz; go_simp; try with_reducible rfl
                  simp only [Act.put, List.setIfInBounds_toArray, List.set_cons_zero, List.set_cons_succ]
                  refine held_take (i := 12) (v := ?_) rfl (by kernel_rfl) (by kernel_rfl) (by kernel_rfl) (fun _ _ _ h => h) (by rfl) hHeld ?_ ?_
                  rotate_left
                  · intro wz hSz; go_simp; try with_reducible rfl
                  simp only [Act.put, List.setIfInBounds_toArray, List.set_cons_zero, List.set_cons_succ]
                  refine wpAnyH_done (by kernel_rfl) ?_ _
                  have HBF := Lib.hid (below_to HB0.out (below_to BR.out hHeld))
                  go_wp2_with fail
                  exact bodyPost_ret (v := .bool true) (by simp [results, Tryz.results6, go_sem]) rfl ⟨rfl, HBF.out⟩
end Go.Proofs.YtaaibciacipelaaGreatDoor
