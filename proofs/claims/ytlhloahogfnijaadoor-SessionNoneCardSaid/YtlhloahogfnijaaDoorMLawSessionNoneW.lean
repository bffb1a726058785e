/- The statement SessionNone: of whom no session is there nothing is told, none is used, nothing is kept. Conditions: none. -/
import Derived.Test.YtlhloahogfnijaaDoorMSsN
import Derived.Test.YtlhloahogfnijaaDoorMSsP
import Derived.Test.YtlhloahogfnijaaDoorMSsA
namespace Go.Proofs.YtlhloahogfnijaaDoor
open Go.RowKit Go.Maps Go.Sort Go.Shelf
set_option linter.unusedSimpArgs false

theorem none_seq {k : Nat} {Z : List Int} {L : List Se} (h : NoneI k Z L) (x : Int) : seqOf x L = 0 ∧ repOf x L = Rp.zero := by
  unfold seqOf repOf
  cases hf : findS x L with
  | none => exact ⟨rfl, rfl⟩
  | some s =>
    have := h.new s (findS_mem hf).1
    dsimp only
    rw [this]
    exact ⟨rfl, rfl⟩
theorem none_keep {k : Nat} {Z : List Int} {L : List Se} (h : NoneI k Z L) (hu : L.Pairwise fun a b => a.id < b.id) (x : Int) : (keepS x 1 Rp.zero (useS x 3 L).2).1 = (findS x L).isSome := by
  by_cases hf : (findS x L).isSome = true
  · obtain ⟨s, hs, e⟩ := findS_some.1 hf
    have hn := h.new s hs
    have hup : (updS x (useF 3) L).Pairwise fun a b => a.id < b.id := updS_up (fun _ => rfl) hu
    have hm : useF 3 s ∈ updS x (useF 3) L := List.mem_map.2 ⟨s, hs, by rw [if_pos e]⟩
    have hf2 : findS x (updS x (useF 3) L) = some (useF 3 s) := findS_of hup hm e
    have : mayK x 1 Rp.zero (useS x 3 L).2 = true := by
      unfold mayK useS
      dsimp only
      rw [hf2, hn]
      show (wi (0 + 1) 1 && repB Rp.zero) = true
      decide +kernel
    rw [keepS_yes this, hf]
  · have hf0 : findS x L = none := by simpa using hf
    have : mayK x 1 Rp.zero (useS x 3 L).2 = false := by
      unfold mayK useS
      dsimp only
      rw [updS_none hf0, hf0]
    rw [keepS_no this]
    simpa using hf0
set_option maxHeartbeats 4000000 in
set_option maxRecDepth 100000 in
theorem sessionnone_walk (A : Option Addr) (Z : List Int) (c : Nat) (x : Int) (w : World) (_hc : Z.length ≤ c) (hcm : c ≤ 17592186044416) (hZ : Is w A Z) (_hN : ∀ z ∈ Z, -9223372036854775808 ≤ z ∧ z ≤ 9223372036854775807) (_hA : A = none → c = 0) (hlo : -9223372036854775808 ≤ x) (hhi : x ≤ 9223372036854775807) (hT : Tabs w) :
    Calls Tryd.prog 5 #[.slice A Z.length c, .int .i64 x] w fun e w' => e = .returned (.bool true) ∧ Below w.heap.size w w' := by
  have HZ := Lib.hid hZ
  have HT := Lib.hid hT
  have e1 : cutM 64 = 64 := by decide
  have c1 := stnew_any 64 w
  rw [e1] at c1
  obtain ⟨N, hN⟩ : ∃ N, N = min Z.length 60 := ⟨_, rfl⟩
  have HN := Lib.hid hN
  have hzl : Z.length ≤ 17592186044416 := by omega
  clear hZ hT hN
  go_enter Tryd.func5, Tryd.ntmps5
  go_wp2_with fail
  refine c1.mono ?_
  rintro e w1 ⟨T, r, rfl, H1, hTw, hrw, hb1⟩
  have HB1 := Lib.hid hb1
  have HTB := Lib.hid (show Tab w1 T r 64 (oT (Z.take 0)) from H1)
  clear hb1 c1 H1
  go_wp2_with fail
  go_loopg [6, 7] (N) (fun m s6 s7 wr => ∃ k : Nat, k + m = N ∧ s7 = .int .i64 (k : Int) ∧ s6 = .bool (decide (x ∈ Z.take k)) ∧ Hid (Tab wr T r 64 (oT (Z.take k))) ∧ Hid (Below w.heap.size w wr))
  case atStart => exact ⟨0, by omega, rfl, by simp, HTB, HB1⟩
  case round =>
    obtain ⟨k, hkm, rfl, rfl, HK, HW⟩ := hrel
    have HKM := Lib.hid hkm
    clear HTB HB1
    by_cases hk : k < N
    · have hkl : k < Z.length := by have := HN.out; omega
      have hkz : (k : Int) < (Z.length : Int) := by omega
      have hk6 : (k : Int) < 60 := by have := HN.out; omega
      obtain ⟨b, off, rfl, hc⟩ := Ss.is_at (HZ.out.below HW.out) hkl
      have HX := Lib.hid (List.getElem?_eq_getElem hkl)
      generalize hz : Z[k] = z at *
      clear hz
      have co := stopen_any T r 64 (oT (Z.take k)) z wr HK.out
      have HS := Lib.hid (oT_take HX.out)
      have HM := Lib.hid (show (decide (x ∈ Z.take k) || decide (z = x)) = decide (x ∈ Z.take (k + 1)) by
        rw [List.take_add_one, HX.out, Bool.eq_iff_iff]
        simp only [Bool.or_eq_true, decide_eq_true_eq, Option.toList_some, List.mem_append, List.mem_singleton]
        exact or_congr Iff.rfl ⟨Eq.symm, Eq.symm⟩)
      clear hkl hkm
      by_cases hin : x ∈ Z.take k
      · rw [decide_eq_true hin] at HM ⊢
        clear hin
        go_wp2_with fail
        refine co.mono ?_
        rintro e w2 ⟨rfl, H2, B2⟩
        have HB2 := Lib.hid (HW.out.trans (B2.low (.inr HW.out.size) hrw HW.out.size))
        have H2' := Lib.hid H2
        rw [← HS.out] at H2'
        have hcell := hc
        clear co B2 H2 hc hcell
        go_wp2_with fail
        go_roundg (N - (k + 1))
        case measure => have := HKM.out; omega
        case rel => exact ⟨k + 1, by have := HKM.out; omega, by go_num, by rw [← HM.out]; rfl, H2', HB2⟩
      · rw [decide_eq_false hin] at HM ⊢
        clear hin
        go_wp2_with fail
        refine co.mono ?_
        rintro e w2 ⟨rfl, H2, B2⟩
        have hzz := Ss.is_at (HZ.out.below (HW.out.trans (B2.low (.inr HW.out.size) hrw HW.out.size))) (show k < Z.length by omega)
        have HB2 := Lib.hid (HW.out.trans (B2.low (.inr HW.out.size) hrw HW.out.size))
        have H2' := Lib.hid H2
        rw [← HS.out] at H2'
        have hc2 : w2.cell? ⟨b, off + k, none⟩ = some (.int .i64 z) := by
          obtain ⟨b2, o2, e2, h2⟩ := hzz
          injection e2 with e2
          injection e2 with e3 e4
          subst e3 e4
          rw [h2]
          have := HX.out
          rw [List.getElem?_eq_getElem (show k < Z.length by omega)] at this
          rw [Option.some.inj this]
        clear co B2 H2 hc hzz
        have hzx : ((z == x) = decide (z = x)) := by rw [Bool.eq_iff_iff]; simp
        go_wp2_with fail
        go_roundg (N - (k + 1))
        case measure => have := HKM.out; omega
        case rel => exact ⟨k + 1, by have := HKM.out; omega, by go_num, by rw [← HM.out]; simp, H2', HB2⟩
    · have hkN : k = N := by omega
      have hNI := NoneI.all Z k (by have := HN.out; omega) (by have := HN.out; omega)
      obtain ⟨hq, hr⟩ := none_seq hNI x
      have hkp := none_keep hNI HK.out.t.up x
      have hus : (useS x 3 (oT (Z.take k))).1 = (findS x (oT (Z.take k))).isSome := rfl
      have hhas := hNI.has x
      generalize oT (Z.take k) = L at *
      have cl := stlast_any T r 64 L x wr HK.out
      rw [hq, hr] at cl
      change Calls _ _ _ _ (fun e w' => e = .returned (.tuple #[.int .i64 0, .agg #[.int .i64 0, .int .i64 0, .int .i64 0, .int .i64 0, .string ⟨#[]⟩], _]) ∧ _) at cl
      obtain ⟨is, his⟩ : ∃ is, (findS x L).isSome = is := ⟨_, rfl⟩
      rw [his] at cl hkp hus hhas
      have hh : k = Z.length ∨ (k = 60 ∧ (60 : Int) < (Z.length : Int)) := by have := HN.out; omega
      have HIS := Lib.hid hhas
      have HKP := Lib.hid hkp
      have HUS := Lib.hid hus
      clear hNI hq hr hkp hus hhas his hkm hk hkN HKM
      have heq := fun W => eqlIn_rep 0 0 0 0 ⟨#[]⟩ 0 0 0 0 ⟨#[]⟩ W
      rw [show sameR 0 0 0 0 ⟨#[]⟩ 0 0 0 0 ⟨#[]⟩ = true by decide +kernel] at heq
      generalize hin : decide (x ∈ Z.take k) = inb
      have HIN := Lib.hid hin
      clear hin
      rcases hh with hkl | ⟨hkl, hk6⟩
      all_goals
        subst hkl
        go_wp2_with fail
        refine cl.mono ?_
        rintro e w2 ⟨rfl, hb2⟩
        have HB2 := Lib.hid (HW.out.trans (hb2.mono HW.out.size))
        have H2 := Lib.hid (HK.out.later hb2)
        have b3 := Ss.below_alloc w2 (.cells (cs5 0 0 0 0 ⟨#[]⟩) 31)
        have HB3 := Lib.hid (HB2.out.trans (b3.mono HB2.out.size))
        have H3 := Lib.hid (H2.out.later b3)
        clear hb2 b3 cl
        have cu := stuse_any T r 64 L x 3 _ H3.out
        rw [HUS.out] at cu
        have ck := fun W h hW => stkeep_any T r 64 (useS x 3 L).2 x 1 Rp.zero W h zero_in (by decide) (HT.out.later hW)
        rw [HKP.out] at ck
        change ∀ W (h : Tab W T r 64 (useS x 3 L).2) (hW : Below w.heap.size w W), Calls Tryd.prog _ #[_, _, _, .agg #[.int .i64 0, .int .i64 0, .int .i64 0, .int .i64 0, .string ⟨#[]⟩]] W _ at ck
        cases is with
        | true =>
          have hz := HIS.out.1 rfl
          have hib : inb = true := by rw [← HIN.out]; exact decide_eq_true hz.1
          obtain ⟨-, hx1, hx2⟩ := hz
          subst hib
          go_wp2_with fail
          refine cu.mono ?_
          rintro e w4 ⟨rfl, H4, B4⟩
          have HB4 := Lib.hid (HB3.out.trans (B4.low (.inr HB3.out.size) hrw HB3.out.size))
          have ck4 := ck w4 H4 HB4.out
          clear B4 cu ck
          go_wp2_with fail
          refine ck4.mono ?_
          rintro e w5 ⟨rfl, H5, B5⟩
          have HB5 := Lib.hid (HB4.out.trans (B5.low (.inr HB4.out.size) hrw HB4.out.size))
          have ca := stawake_any w5
          clear B5 ck4
          go_wp2_with fail
          refine ca.mono ?_
          rintro e w6 ⟨rfl, hb6⟩
          go_wp2_with fail
          go_ret
          exact ⟨rfl, HB5.out.trans (hb6.mono HB5.out.size)⟩
        | false =>
          have hz : inb = false ∨ (inb = true ∧ x < 1) ∨ (inb = true ∧ 1 ≤ x ∧ 1099511627776 < x) := by
            cases inb with
            | false => exact .inl rfl
            | true =>
              have h1 : x ∈ _ := of_decide_eq_true HIN.out
              have h2 := mt HIS.out.2 (by simp)
              by_cases h3 : 1 ≤ x
              · by_cases h4 : x ≤ 1099511627776
                · exact absurd ⟨h1, h3, h4⟩ h2
                · exact .inr (.inr ⟨rfl, h3, by omega⟩)
              · exact .inr (.inl ⟨rfl, by omega⟩)
          rcases hz with rfl | ⟨rfl, hx1⟩ | ⟨rfl, hx1, hx2⟩
          all_goals
            go_wp2_with fail
            refine cu.mono ?_
            rintro e w4 ⟨rfl, H4, B4⟩
            have HB4 := Lib.hid (HB3.out.trans (B4.low (.inr HB3.out.size) hrw HB3.out.size))
            have ck4 := ck w4 H4 HB4.out
            clear B4 cu ck
            go_wp2_with fail
            refine ck4.mono ?_
            rintro e w5 ⟨rfl, H5, B5⟩
            have HB5 := Lib.hid (HB4.out.trans (B5.low (.inr HB4.out.size) hrw HB4.out.size))
            have ca := stawake_any w5
            clear B5 ck4
            go_wp2_with fail
            refine ca.mono ?_
            rintro e w6 ⟨rfl, hb6⟩
            go_wp2_with fail
            go_ret
            exact ⟨rfl, HB5.out.trans (hb6.mono HB5.out.size)⟩
end Go.Proofs.YtlhloahogfnijaaDoor
