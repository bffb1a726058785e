/- The document's own Reach. -/
import Derived.Test.YtbacphifmbjooaaGrR
namespace Go.Proofs.Ytbacphifmbjooaa
open Go.RowKit

theorem cnt_same {D E : Nat → Bool} : ∀ n, (∀ k, k < n → D k = E k) → cnt n D = cnt n E
  | 0, _ => rfl
  | n + 1, h => by unfold cnt; rw [cnt_same n (fun k hk => h k (by omega)), h n (by omega)]
/-- One pass over all, up to the k-th of what i needs. -/
structure Pass (n : Nat) (L : List (List Int)) (F : List Int) (D : Nat → Bool) (i k : Nat) (D2 : Nat → Bool) (more : Bool) : Prop where
  snd : ∀ j, D2 j = true → Rch n L F j
  mono : ∀ j, D j = true → D2 j = true
  le : cnt n D2 ≤ cnt n D
  no : more = false → (∀ j, D2 j = D j) ∧ ∀ j, j < i → ∀ x ∈ rowL L j, inn n x = true → D x.toNat = true → D j = true
  yes : more = true → cnt n D2 < cnt n D
  cur : D2 i = true ∨ ∀ x ∈ (rowL L i).take k, inn n x = true → D2 x.toNat = false
theorem Pass.zero {n : Nat} {L : List (List Int)} {F : List Int} {D : Nat → Bool} (h : ∀ j, D j = true → Rch n L F j) : Pass n L F D 0 0 D false :=
  ⟨h, fun _ h => h, Nat.le_refl _, fun _ => ⟨fun _ => rfl, fun j h => by omega⟩, (fun h => by cases h), .inr (by simp)⟩
theorem Pass.next {n i k : Nat} {L : List (List Int)} {F : List Int} {D D2 : Nat → Bool} {more : Bool} (h : Pass n L F D i k D2 more) (hk : (rowL L i).length ≤ k ∨ D2 i = true) : Pass n L F D (i + 1) 0 D2 more := by
  refine ⟨h.snd, h.mono, h.le, fun hm => ?_, h.yes, .inr (by simp)⟩
  obtain ⟨h1, h2⟩ := h.no hm
  refine ⟨h1, fun j hj x hx hi hd => ?_⟩
  by_cases e : j = i
  · subst e
    rw [← h1 j]
    rcases hk with hk | hk
    · rcases h.cur with h3 | h3
      · exact h3
      · rw [List.take_of_length_le hk] at h3
        have := h3 x hx hi
        rw [h1, hd] at this
        cases this
    · exact hk
  · exact h2 j (by omega) x hx hi hd
theorem Pass.skip {n i k : Nat} {L : List (List Int)} {F : List Int} {D D2 : Nat → Bool} {more : Bool} (h : Pass n L F D i k D2 more) (hk : k < (rowL L i).length) (hx : inn n (rowL L i)[k] = true → D2 ((rowL L i)[k]).toNat = false) : Pass n L F D i (k + 1) D2 more := by
  refine ⟨h.snd, h.mono, h.le, h.no, h.yes, ?_⟩
  rcases h.cur with h1 | h1
  · exact .inl h1
  · refine .inr fun x hm hi => ?_
    rw [List.take_succ_eq_append_getElem hk] at hm
    rcases List.mem_append.1 hm with hm | hm
    · exact h1 x hm hi
    · rw [List.mem_singleton.1 hm] at hi ⊢; exact hx hi
theorem Pass.add {n i k : Nat} {L : List (List Int)} {F : List Int} {D D2 : Nat → Bool} {more : Bool} (h : Pass n L F D i k D2 more) (hi : i < n) (hd : D2 i = false) {x : Int} (hx : x ∈ rowL L i) (hxi : inn n x = true) (hxd : D2 x.toNat = true) : Pass n L F D i (k + 1) (upd D2 i) true := by
  have hc := cnt_upd hd n hi
  have hle := h.le
  refine ⟨fun j hj => ?_, fun j hj => upd_mono (h.mono j hj), by omega, (fun h => by cases h), fun _ => by omega, .inl (upd_self _ _)⟩
  rcases (upd_at _ _ _).1 hj with rfl | hj
  · exact .more hi hx hxi (h.snd _ hxd)
  · exact h.snd j hj
/-- Marks out of a list. -/
structure Mrk (n : Nat) (F : List Int) (i : Nat) (D : Nat → Bool) : Prop where
  snd : ∀ j, D j = true → ∃ x ∈ F, inn n x = true ∧ x.toNat = j
  all : ∀ x ∈ F.take i, inn n x = true → D x.toNat = true
theorem Mrk.zero (n : Nat) (F : List Int) : Mrk n F 0 (fun _ => false) := ⟨(fun _ h => by cases h), by simp⟩
theorem Mrk.skip {n i : Nat} {F : List Int} {D : Nat → Bool} (h : Mrk n F i D) (hi : i < F.length) (hx : inn n F[i] = false) : Mrk n F (i + 1) D := ⟨h.snd, fun x hm hxi => by
  rw [List.take_succ_eq_append_getElem hi] at hm
  rcases List.mem_append.1 hm with hm | hm
  · exact h.all x hm hxi
  · rw [List.mem_singleton.1 hm, hx] at hxi; cases hxi⟩
theorem Mrk.add {n i m : Nat} {F : List Int} {D : Nat → Bool} (h : Mrk n F i D) (hi : i < F.length) (hm : m < n) (hx : F[i] = (m : Int)) : Mrk n F (i + 1) (upd D m) := ⟨fun j hj => by
  rcases (upd_at _ _ _).1 hj with rfl | hj
  · exact ⟨(j : Int), by rw [← hx]; exact List.getElem_mem hi, inn_nat hm, by simp⟩
  · exact h.snd j hj, fun x hmm hxi => by
  rw [List.take_succ_eq_append_getElem hi, hx] at hmm
  rcases List.mem_append.1 hmm with hmm | hmm
  · exact upd_mono (h.all x hmm hxi)
  · rw [List.mem_singleton.1 hmm, Int.toNat_natCast]; exact upd_self _ _⟩
/-- The row of marks. -/
structure Inr (w : World) (n : Nat) (D : Nat → Bool) (wr : World) : Prop where
  row : wr.rowIs w.heap.size 4 n (fun j => .bool (D j))
  base : Below w.heap.size w wr
  size : w.heap.size + 1 ≤ wr.heap.size
theorem Inr.set {w wr : World} {n : Nat} {D : Nat → Bool} (h : Inr w n D wr) (m : Nat) : Inr w n (upd D m) (wr.setCell ⟨w.heap.size, m, none⟩ (.bool true)) :=
  ⟨(h.row.set m _).congr fun i _ => (by unfold upd; split <;> rfl), h.base.setCell (Nat.le_refl _) _, by simpa using h.size⟩
def NeedAt (w wr : World) (l : List Int) (e : Ending) (w' : World) : Prop := ∃ B c, e = .returned (.slice B l.length c) ∧ l.length ≤ c ∧ l.length ≤ 17592186044416 ∧ Is w B l ∧ w' = wr
set_option maxHeartbeats 400000 in
theorem needs_at (A : Option Addr) (L : List (List Int)) (cap i : Nat) (w wr : World) (hL : LL w A L) (hb : Below w.heap.size w wr) :
    Calls Try.prog 29 #[.slice A L.length cap, .int .i64 (i : Int)] wr (NeedAt w wr (rowL L i)) := by
  by_cases h : i < L.length
  · have hz : (i : Int) < (L.length : Int) := by omega
    obtain ⟨b, off, B, c, rfl, hcw, h1, h2, h3, h4, _⟩ := hL.at h
    have hc := (hb.cell (p := ⟨b, off + i, none⟩) (cell_lt hcw)).trans hcw
    have H3 := Lib.hid h3
    clear hL h3 h4 hcw hb
    generalize rowL L i = l at *
    go_enter Try.func29, Try.ntmps29
    go_wp2
    go_ret
    exact ⟨B, c, rfl, h1, h2, H3.out, rfl⟩
  · have hz : ¬ (i : Int) < (L.length : Int) := by omega
    rw [rowL_out (by omega)]
    clear hL hb
    go_enter Try.func29, Try.ntmps29
    go_wp2
    go_ret
    exact ⟨none, 0, rfl, Nat.le_refl _, by simp, Els.nil _ _, rfl⟩
set_option maxHeartbeats 8000000 in
set_option maxRecDepth 100000 in
theorem rreach_any (n : Int) (A : Option Addr) (L : List (List Int)) (cap : Nat) (B : Option Addr) (F : List Int) (cB : Nat) (w : World) (hL : LL w A L) (hFl : F.length ≤ 17592186044416) (hF : Is w B F) :
    Calls Try.prog 18 #[.int .i64 n, .slice A L.length cap, .slice B F.length cB] w (OneEnd w (reachI n L F)) := by
  obtain ⟨i0, hi, hz0, hz1, hz2⟩ := info_parts info_int
  have cf := may_any n w
  cases hm : mayB n with
  | false =>
    rw [hm] at cf
    rw [show reachI n L F = [] by unfold reachI; rw [hm]; rfl]
    clear hm hL hF
    go_enter Try.func18, Try.ntmps18
    go_wp2_with fail
    (with_reducible refine cf.mono ?_)
    rintro e w1 ⟨rfl, rfl⟩
    clear cf
    go_wp2_with fail
    go_ret
    exact ⟨none, 0, rfl, by simp, by simp, Els.nil _ _, Below.refl _ _⟩
  | true =>
    rw [hm] at cf
    obtain ⟨m, rfl, hm4⟩ := mayB_nat hm
    rw [show reachI (m : Int) L F = reachZ m L F by unfold reachI; rw [hm]; rfl]
    have hlen := reach_len m L F
    have hmk := mk_bools m (by omega)
    have HF := Lib.hid hF
    have HL := Lib.hid hL
    obtain ⟨Z, hZ⟩ : ∃ Z, Z = reachZ m L F := ⟨_, rfl⟩
    have HZ := Lib.hid hZ
    rw [← hZ] at hlen ⊢
    have H0 : Hid (Inr w m (fun _ => false) (w.alloc (.cells (madeCells #[.bool false] m) 4))) := Lib.hid ⟨World.rowIs_made w _ m _, below_alloc _ _, by rw [alloc_size]; omega⟩
    clear hm hL hF hZ
    go_enter Try.func18, Try.ntmps18
    go_wp2_with fail
    (with_reducible refine cf.mono ?_)
    rintro e w0 ⟨rfl, rfl⟩
    clear cf
    go_wp2_with fail
    go_loopg [8] (F.length) (fun q s8 wr => ∃ (i : Nat) (D : Nat → Bool), i + q = F.length ∧ s8 = .int .i64 (i : Int) ∧ Hid (Inr w0 m D wr) ∧ Hid (Mrk m F i D))
    case atStart => exact ⟨0, _, by omega, rfl, H0, Lib.hid (Mrk.zero m F)⟩
    case round =>
      clear H0 hmk
      obtain ⟨i, D, hiq, rfl, HI, HM⟩ := hrel
      have HIQ := Lib.hid hiq
      by_cases hif : i < F.length
      · have hiz : (i : Int) < (F.length : Int) := by omega
        obtain ⟨b, off, rfl, hc⟩ := is_at (HF.out.below HI.out.base) hif
        obtain ⟨x, hx⟩ : ∃ x, x = F[i] := ⟨_, rfl⟩
        have HX := Lib.hid hx
        rw [← hx] at hc
        clear hiq hx
        by_cases h0 : 0 ≤ x
        · by_cases h1 : x < (m : Int)
          · obtain ⟨k, rfl⟩ : ∃ k : Nat, x = (k : Int) := ⟨x.toNat, by omega⟩
            have hk : k < m := by omega
            have hck := HI.out.row.cell hk
            have hfz := HI.out.row.frozen k
            have HI2 := Lib.hid (HI.out.set k)
            have HM2 := Lib.hid (HM.out.add hif hk HX.out.symm)
            go_wp2_with fail
            go_roundg (F.length - (i + 1))
            case measure => have := HIQ.out; omega
            case rel => exact ⟨i + 1, _, by have := HIQ.out; omega, by go_num, HI2, HM2⟩
          · have HM2 := Lib.hid (HM.out.skip hif (by rw [← HX.out]; cases h : inn m x with | false => rfl | true => exact absurd (inn_iff.1 h).2 h1))
            go_wp2_with fail
            go_roundg (F.length - (i + 1))
            case measure => have := HIQ.out; omega
            case rel => exact ⟨i + 1, D, by have := HIQ.out; omega, by go_num, HI, HM2⟩
        · have HM2 := Lib.hid (HM.out.skip hif (by rw [← HX.out]; cases h : inn m x with | false => rfl | true => exact absurd (inn_iff.1 h).1 h0))
          go_wp2_with fail
          go_roundg (F.length - (i + 1))
          case measure => have := HIQ.out; omega
          case rel => exact ⟨i + 1, D, by have := HIQ.out; omega, by go_num, HI, HM2⟩
      · have hiz : ¬ (i : Int) < (F.length : Int) := by omega
        have hall := HM.out.all
        rw [List.take_of_length_le (by omega)] at hall
        have H1 : Hid (∃ D, Inr w0 m D wr ∧ (∀ j, D j = true → Rch m L F j) ∧ ∀ x ∈ F, inn m x = true → D x.toNat = true) := Lib.hid ⟨D, HI.out, fun j hj => by
          obtain ⟨x, hx, hxi, rfl⟩ := HM.out.snd j hj
          exact .one hxi hx, hall⟩
        clear hiq hall HI HM HIQ
        go_wp2_with fail
        go_loopg [9] (m + 1) (fun q s9 wy => ∃ (D : Nat → Bool) (more : Bool), cnt m D + cond more 1 0 ≤ q ∧ s9 = .bool more ∧ Hid (Inr w0 m D wy) ∧ Hid ((∀ j, D j = true → Rch m L F j) ∧ ∀ x ∈ F, inn m x = true → D x.toNat = true) ∧ Hid (more = false → ∀ j, j < m → ∀ x ∈ rowL L j, inn m x = true → D x.toNat = true → D j = true))
        case atStart =>
          obtain ⟨D, h1, h2⟩ := H1.out
          exact ⟨D, true, by have := cnt_le m D; simp only [cond_true]; omega, rfl, Lib.hid h1, Lib.hid h2, Lib.hid fun h => by cases h⟩
        case round =>
          clear H1
          obtain ⟨D, more, hq, rfl, HI, HP, HC⟩ := hrel
          have HQ := Lib.hid hq
          obtain ⟨G, hG⟩ : ∃ G, G = gk := ⟨_, rfl⟩
          subst hG
          clear hq
          cases more with
          | true =>
            have HPA := Lib.hid (Pass.zero (n := m) (L := L) HP.out.1)
            go_wp2_with fail
            go_loopg [9, 10] (m) (fun q s9 s10 wz => ∃ (i : Nat) (D2 : Nat → Bool) (more : Bool), i + q = m ∧ s10 = .int .i64 (i : Int) ∧ s9 = .bool more ∧ Hid (Inr w0 m D2 wz) ∧ Hid (Pass m L F D i 0 D2 more))
            case atStart => exact ⟨0, D, false, by omega, rfl, rfl, HI, HPA⟩
            case round =>
              clear HPA HI
              obtain ⟨i, D2, more, hiq, rfl, rfl, HI, HPA⟩ := hrel
              have HIQ := Lib.hid hiq
              obtain ⟨G3, hG3⟩ : ∃ G, G = gk := ⟨_, rfl⟩
              subst hG3
              by_cases him : i < m
              · have himz : (i : Int) < (m : Int) := by omega
                have cn := needs_at A L cap i w0 wr HL.out HI.out.base
                clear hiq
                obtain ⟨l, hl⟩ : ∃ l, l = rowL L i := ⟨_, rfl⟩
                have HLL := Lib.hid hl
                rw [← hl] at cn
                clear hl
                go_wp2_with fail
                (with_reducible refine cn.mono ?_)
                rintro e w5 ⟨Bl, cl, rfl, hl1, hl2, hl3, rfl⟩
                have HIL := Lib.hid hl3
                clear cn hl3
                go_wp2_with fail
                go_loopg [9, 12] (l.length) (fun q s9 s12 wu => ∃ (k : Nat) (D2 : Nat → Bool) (more : Bool), k + q = l.length ∧ s12 = .int .i64 (k : Int) ∧ s9 = .bool more ∧ Hid (Inr w0 m D2 wu) ∧ Hid (Pass m L F D i k D2 more))
                case atStart => exact ⟨0, D2, more, by omega, rfl, rfl, HI, HPA⟩
                case round =>
                  clear HPA HI
                  obtain ⟨k, D2, more, hkq, rfl, rfl, HI, HPA⟩ := hrel
                  have HKQ := Lib.hid hkq
                  have hci := HI.out.row.cell him
                  clear hkq
                  by_cases hk : k < l.length
                  · have hkz : (k : Int) < (l.length : Int) := by omega
                    cases hd : D2 i with
                    | true =>
                      rw [hd] at hci
                      have HPN := Lib.hid (HPA.out.next (.inr hd))
                      clear hd
                      go_wp2_with fail
                      go_roundg (m - (i + 1))
                      case measure => have := HIQ.out; omega
                      case rel => exact ⟨i + 1, D2, more, by have := HIQ.out; omega, by go_num, rfl, HI, HPN⟩
                    | false =>
                      rw [hd] at hci
                      have HD := Lib.hid hd
                      clear hd
                      obtain ⟨b, off, rfl, hc⟩ := is_at (HIL.out.below HI.out.base) hk
                      have hkr : k < (rowL L i).length := by rw [← HLL.out]; exact hk
                      obtain ⟨x, hx⟩ : ∃ x, x = l[k] := ⟨_, rfl⟩
                      have HXR := Lib.hid (show (rowL L i)[k] = x by rw [hx]; simp only [HLL.out])
                      have HXM := Lib.hid (show x ∈ rowL L i by rw [← HXR.out]; exact List.getElem_mem hkr)
                      rw [← hx] at hc
                      clear hx
                      by_cases h0 : 0 ≤ x
                      · by_cases h1 : x < (m : Int)
                        · obtain ⟨y, rfl⟩ : ∃ y : Nat, x = (y : Int) := ⟨x.toNat, by omega⟩
                          have hy : y < m := by omega
                          have hcy := HI.out.row.cell hy
                          cases hdy : D2 y with
                          | true =>
                            rw [hdy] at hcy
                            have hfz := HI.out.row.frozen i
                            have HI2 := Lib.hid (HI.out.set i)
                            have HP2 := Lib.hid (HPA.out.add him HD.out HXM.out (inn_nat hy) (by simpa using hdy))
                            clear hdy
                            go_wp2_with fail
                            go_roundg (l.length - (k + 1))
                            case measure => have := HKQ.out; omega
                            case rel => exact ⟨k + 1, _, true, by have := HKQ.out; omega, by go_num, rfl, HI2, HP2⟩
                          | false =>
                            rw [hdy] at hcy
                            have HP2 := Lib.hid (HPA.out.skip hkr (by rw [HXR.out]; intro _; simpa using hdy))
                            clear hdy
                            go_wp2_with fail
                            go_roundg (l.length - (k + 1))
                            case measure => have := HKQ.out; omega
                            case rel => exact ⟨k + 1, D2, more, by have := HKQ.out; omega, by go_num, rfl, HI, HP2⟩
                        · have HP2 := Lib.hid (HPA.out.skip hkr (by rw [HXR.out]; intro h; exact absurd (inn_iff.1 h).2 h1))
                          go_wp2_with fail
                          go_roundg (l.length - (k + 1))
                          case measure => have := HKQ.out; omega
                          case rel => exact ⟨k + 1, D2, more, by have := HKQ.out; omega, by go_num, rfl, HI, HP2⟩
                      · have HP2 := Lib.hid (HPA.out.skip hkr (by rw [HXR.out]; intro h; exact absurd (inn_iff.1 h).1 h0))
                        go_wp2_with fail
                        go_roundg (l.length - (k + 1))
                        case measure => have := HKQ.out; omega
                        case rel => exact ⟨k + 1, D2, more, by have := HKQ.out; omega, by go_num, rfl, HI, HP2⟩
                  · have hkz : ¬ (k : Int) < (l.length : Int) := by omega
                    have HPN := Lib.hid (HPA.out.next (.inl (by rw [← HLL.out]; omega)))
                    clear hci
                    go_wp2_with fail
                    go_roundg (m - (i + 1))
                    case measure => have := HIQ.out; omega
                    case rel => exact ⟨i + 1, D2, more, by have := HIQ.out; omega, by go_num, rfl, HI, HPN⟩
              · have himz : ¬ (i : Int) < (m : Int) := by omega
                obtain rfl : i = m := by omega
                have HP2 : Hid ((∀ j, D2 j = true → Rch i L F j) ∧ ∀ x ∈ F, inn i x = true → D2 x.toNat = true) := Lib.hid ⟨HPA.out.snd, fun x hx hi => HPA.out.mono _ (HP.out.2 x hx hi)⟩
                have HC2 : Hid (more = false → ∀ j, j < i → ∀ x ∈ rowL L j, inn i x = true → D2 x.toNat = true → D2 j = true) := Lib.hid fun hm j hj x hx hxi hd => by
                  obtain ⟨h1, h2⟩ := HPA.out.no hm
                  rw [h1] at hd ⊢
                  exact h2 j hj x hx hxi hd
                have HLT := Lib.hid (show cnt i D2 + cond more 1 0 < cnt i D + 1 by
                  have h1 := HPA.out.le
                  cases more with
                  | true => have := HPA.out.yes rfl; simp only [cond_true]; omega
                  | false => simp only [cond_false]; omega)
                clear hiq
                go_wp2_with fail
                go_roundg (cnt i D2 + cond more 1 0)
                case measure => have h1 := HQ.out; have h2 := HLT.out; simp only [cond_true] at h1; omega
                case rel => exact ⟨D2, more, Nat.le_refl _, rfl, HI, HP2, HC2⟩
          | false =>
            have HZD := Lib.hid (show iz (those m D true) = Z by rw [HZ.out]; exact reachZ_of (Right.of (fun i _ h => HP.out.1 i h) HP.out.2 fun i hi x hx hxi hd => HC.out rfl i hi x hx hxi hd))
            have HB := Lib.hid HI.out.base
            have hsz0 := HI.out.base.size
            have HROW := Lib.hid HI.out.row
            obtain ⟨W2, hW2⟩ : ∃ W2, W2 = wr := ⟨_, rfl⟩
            subst hW2
            clear HI
            go_wp2_with fail
            go_loopg [13, 14] (m) (fun q s13 s14 wv => ∃ k : Nat, k + q = m ∧ s14 = .int .i64 (k : Int) ∧ Hid (OwnZ wv W2.heap.size s13 (iz (those k D true))) ∧ Hid (Below W2.heap.size W2 wv))
            case atStart => exact ⟨0, by omega, rfl, Lib.hid (World.ownsRow_nil _ _ _ _), Lib.hid (Below.refl _ _)⟩
            case round =>
              obtain ⟨k, hkm, rfl, HO, HW⟩ := hrel
              have HKM := Lib.hid hkm
              by_cases hk : k < m
              · have hkz : (k : Int) < (m : Int) := by omega
                have cd := (row_later HROW.out HW.out).cell hk
                have hle : (iz (those k D true)).length ≤ k := by rw [iz_len]; exact those_le D true k
                have hsz := HW.out.size
                clear hkm
                cases hd : D k with
                | true =>
                  have HS := Lib.hid (show those (k + 1) D true = those k D true ++ [k] by rw [those_succ, hd]; rfl)
                  rw [hd] at cd
                  clear hd
                  go_wp2_with (at_builtin; refine wpList_append_own _ rfl _ _ 26 rfl W2.heap.size 3 i0 (.int .i64 0) 1 8 Try.underlying26 hi hz0 hz1 hz2 rfl (by decide) _ _ _ rfl (HO.out.alloc _) ⟨wr.heap.size, 0, none⟩ 1 1 [.int .i64 (k : Int)] rfl rfl (one_cell _ _ _) ?c2 ?c3 ?c4 ?c5 ?_)
                  case c2 => first | rfl | (intro u hu; simp at hu; subst hu; rfl)
                  case c3 => unfold maxLen; omega
                  case c4 => omega
                  case c5 => first | omega | (rw [alloc_size]; omega)
                  intro v' w7 hown' hgrow' _
                  have HB2 := Lib.hid ((HW.out.alloc hsz _).trans (below_own (HO.out.alloc _) hgrow' (by rw [alloc_size]; omega)))
                  have HO2 : Hid (OwnZ w7 W2.heap.size v' (iz (those (k + 1) D true))) := Lib.hid (by
                    rw [HS.out, ← iz_snoc]
                    unfold OwnZ
                    rw [List.length_append, List.length_singleton, ← zs_snoc]
                    exact hown')
                  clear hown' hgrow'
                  go_wp2_with fail
                  go_roundg (m - (k + 1))
                  case measure => have := HKM.out; omega
                  case rel => exact ⟨k + 1, by have := HKM.out; omega, by go_num, HO2, HB2⟩
                | false =>
                  have HS := Lib.hid (show those (k + 1) D true = those k D true by rw [those_succ, hd]; simp)
                  rw [hd] at cd
                  clear hd
                  go_wp2_with fail
                  go_roundg (m - (k + 1))
                  case measure => have := HKM.out; omega
                  case rel => exact ⟨k + 1, by have := HKM.out; omega, by go_num, by rw [HS.out]; exact HO, HW⟩
              · have hkz : ¬ (k : Int) < (m : Int) := by omega
                obtain rfl : k = m := by omega
                obtain ⟨A3, c3, rfl, h1, h2, h3⟩ := els_own (d := (0 : Int)) HO.out
                have HR : Hid (OneEnd w0 Z (.returned (.slice A3 (iz (those k D true)).length c3)) wr) := Lib.hid (by
                  rw [HZD.out] at h1 h2 ⊢
                  exact ⟨A3, c3, rfl, h1, by omega, h2, HB.out.trans (HW.out.mono hsz0)⟩)
                clear hkm HO h1 h2 h3 HZD
                generalize iz (those k D true) = Y at *
                go_wp2_with fail
                go_ret
                exact HR.out
end Go.Proofs.Ytbacphifmbjooaa
