/- The program's order: tell. -/
import Derived.Test.YtbacphifmbjooaaGrT
import Derived.Laws.CopyOwn
namespace Go.Proofs.Ytbacphifmbjooaa
open Go.RowKit

/-- What is still to be looked at of each list: what stands ahead of it was told. -/
def OpR (w : World) (n : Nat) (L : List (List Int)) (D : Nat → Bool) (h : Nat) (wr : World) : Prop :=
  ∃ (V : Nat → Value) (Q : Nat → List Int), wr.rowIs h 26 n V ∧ ∀ j, j < n → RowV w (V j) (Q j) ∧ ∃ p, rowL L j = p ++ Q j ∧ ∀ x ∈ p, inn n x = true → D x.toNat = true
theorem OpR.keep {w : World} {n : Nat} {L : List (List Int)} {D E : Nat → Bool} {h : Nat} {wr wx : World} (k : OpR w n L D h wr) (hh : wx.heap[h]? = wr.heap[h]?) (hE : ∀ i, D i = true → E i = true) : OpR w n L E h wx := by
  obtain ⟨V, Q, h1, h2⟩ := k
  refine ⟨V, Q, h1.of_block hh, fun j hj => ?_⟩
  obtain ⟨h3, p, h4, h5⟩ := h2 j hj
  exact ⟨h3, p, h4, fun x hx hi => hE _ (h5 x hx hi)⟩
theorem is_drop {w : World} {b off : Nat} {l : List Int} (h : Is w (some ⟨b, off, none⟩) l) (k : Nat) : Is w (some ⟨b, off + k, none⟩) (l.drop k) := fun h0 => by
  rw [List.length_drop] at h0
  obtain ⟨b', off', e, hc⟩ := h (by omega)
  injection e with e
  injection e with e1 e2 _
  subst e1
  subst e2
  refine ⟨b, off + k, rfl, fun j hj => ?_⟩
  rw [List.length_drop] at hj
  rw [Nat.add_assoc, hc (k + j) (by omega), List.getD_eq_getElem?_getD, List.getD_eq_getElem?_getD, List.getElem?_drop]
theorem OpR.cut {w : World} {n : Nat} {L : List (List Int)} {D : Nat → Bool} {h : Nat} {wr : World} {V : Nat → Value} {Q : Nat → List Int} (h1 : wr.rowIs h 26 n V) (h2 : ∀ j, j < n → RowV w (V j) (Q j) ∧ ∃ p, rowL L j = p ++ Q j ∧ ∀ x ∈ p, inn n x = true → D x.toNat = true)
    {i at' : Nat} {v : Value} (hi : i < n) (hv : RowV w v ((Q i).drop at')) (hd : ∀ x ∈ (Q i).take at', inn n x = true → D x.toNat = true) : OpR w n L D h (wr.setCell ⟨h, i, none⟩ v) := by
  refine ⟨_, fun j => if j = i then (Q i).drop at' else Q j, h1.set i v, fun j hj => ?_⟩
  by_cases e : j = i
  · subst e
    simp only [if_true]
    obtain ⟨_, p, h4, h5⟩ := h2 j hj
    refine ⟨hv, p ++ (Q j).take at', by rw [List.append_assoc, List.take_append_drop, h4], fun x hx => ?_⟩
    rcases List.mem_append.1 hx with hx | hx
    · exact h5 x hx
    · exact hd x hx
  · simp only [if_neg e]
    exact h2 j hj
theorem TS.other {w : World} {B n : Nat} {L : List (List Int)} {D : Nat → Bool} {O : List Nat} {g : Nat} {v : Value} {wr : World} (h : TS w B n L D O g v wr) {b : Nat} (hb : w.heap.size ≤ b) (hg : b ≠ g) (hB : b < B) (i : Nat) (u : Value) : TS w B n L D O g v (wr.setCell ⟨b, i, none⟩ u) :=
  ⟨own_stay h.own fun k hk => Below.heap_setCell _ _ _ _ (by have := (h.own.lt k hk).1; dsimp only; omega), h.row.setOther (fun e => hg e.symm) _, h.base.setCell (by dsimp only; omega) _, h.way, by have := h.size; simp; omega⟩
theorem made_nil (n : Nat) : madeCells #[.slice none 0 0] n = (List.replicate n (Value.slice none 0 0)).toArray := by
  apply Array.ext
  · simp [madeCells]
  · intro i h1 h2
    simp [madeCells, Nat.mod_one]
/-- What was copied. -/
theorem OpR.start {w wr : World} {n h : Nat} {L : List (List Int)} {V : Nat → Value} (hV : ∀ j, j < L.length → RowV w (V j) (rowL L j)) (hh : wr.heap[h]? = some (.cells (splice (List.replicate n (Value.slice none 0 0)) 0 ((List.range (Nat.min L.length n)).map V)).toArray 26 (0, 0))) :
    OpR w n L (fun _ => false) h wr := by
  have hm : Nat.min L.length n = min L.length n := rfl
  refine ⟨fun j => if j < L.length then V j else .slice none 0 0, fun j => rowL L j, ⟨_, hh, by simp [splice, hm]; omega, fun i hi => ?_⟩, fun j hj => ⟨?_, [], rfl, by simp⟩⟩
  · rw [List.getElem?_toArray]
    unfold splice
    rw [List.take_zero, List.nil_append, List.length_map, List.length_range, Nat.zero_add, hm]
    by_cases h1 : i < L.length
    · rw [List.getElem?_append_left (by rw [List.length_map, List.length_range]; omega), List.getElem?_map, List.getElem?_range (by omega)]
      simp only [if_pos h1]
      rfl
    · rw [List.getElem?_append_right (by rw [List.length_map, List.length_range]; omega), List.length_map, List.length_range, List.getElem?_drop, List.getElem?_replicate, if_pos (by omega)]
      simp only [if_neg h1]
  · by_cases h1 : j < L.length
    · simp only [if_pos h1]; exact hV j h1
    · simp only [if_neg h1]
      rw [rowL_out (by omega)]
      exact RowV.nil w
set_option maxHeartbeats 8000000 in
set_option maxRecDepth 100000 in
theorem tell_any (n : Nat) (A : Option Addr) (L : List (List Int)) (cap : Nat) (w : World) (hn : n ≤ 4096) (hL : LL w A L) :
    Calls Try.prog 22 #[.int .i64 (n : Int), .slice A L.length cap] w (ToldEnd w n L) := by
  obtain ⟨i0, hi, hz0, hz1, hz2⟩ := info_parts info_int
  have hmk := mk_bools n (by omega)
  have hmk2 := mk_lists n (by omega)
  have hsz1 : (Try.prog.info? 26).map (·.size) = some 1 := by kernel_rfl
  obtain ⟨V, hV1, hV2⟩ := hL
  have hcur : (((w.alloc (.cells (madeCells #[.bool false] n) 4)).alloc (.cells (madeCells #[.slice none 0 0] n) 26))).heap[w.heap.size + 1]? = some (.cells (List.replicate n (Value.slice none 0 0)).toArray 26 (0, 0)) := by
    rw [← made_nil, ← alloc_size w (.cells (madeCells #[.bool false] n) 4), heap_alloc_new]
  have hpos : 0 < ((List.range (Nat.min L.length n)).map V).length → ∃ ad, A = some ad ∧ ∀ j v, ((List.range (Nat.min L.length n)).map V)[j]? = some v → ((w.alloc (.cells (madeCells #[.bool false] n) 4)).alloc (.cells (madeCells #[.slice none 0 0] n) 26)).cell? (ad.add j) = some v := by
    intro hp
    have hm : Nat.min L.length n = min L.length n := rfl
    rw [List.length_map, List.length_range, hm] at hp
    obtain ⟨b, off, e, hc⟩ := hV1 (by omega)
    refine ⟨_, e, fun j v hj => ?_⟩
    have hjl : j < min L.length n := by
      have := (List.getElem?_eq_some_iff.1 hj).1
      rwa [List.length_map, List.length_range, hm] at this
    rw [List.getElem?_map, List.getElem?_range (by rw [hm]; exact hjl)] at hj
    obtain rfl : V j = v := by simpa using hj
    rw [Go.WideShapes.add_plain]
    have h1 := hc j (by omega)
    have hb : b < w.heap.size := by
      rcases Nat.lt_or_ge b w.heap.size with hlt | hge
      · exact hlt
      · simp [World.cell?, Array.getElem?_eq_none hge] at h1
    exact ((((Below.refl _ w).alloc (Nat.le_refl _) _).alloc (by simp) _).cell (p := ⟨b, off + j, none⟩) hb).trans h1
  have hone : ∀ v ∈ (List.range (Nat.min L.length n)).map V, v.oneCell' = true := by
    intro v hv
    obtain ⟨j, hj, rfl⟩ := List.mem_map.1 hv
    have hm : Nat.min L.length n = min L.length n := rfl
    have := List.mem_range.1 hj
    rw [hm] at this
    obtain ⟨B, c, e, _⟩ := hV2 j (by omega)
    rw [e]
    rfl
  have HCUR := Lib.hid hcur
  have HPOS := Lib.hid hpos
  have HONE := Lib.hid hone
  have HV := Lib.hid hV2
  clear hcur hpos hone hV1 hV2
  obtain ⟨cs, hcs⟩ : ∃ cs, cs = (List.range (Nat.min L.length n)).map V := ⟨_, rfl⟩
  have HCS := Lib.hid hcs
  rw [← hcs] at HPOS HONE
  have HLEN := Lib.hid (show cs.length = Nat.min L.length n by rw [hcs, List.length_map, List.length_range])
  have HFIT := Lib.hid (show 0 + cs.length ≤ (List.replicate n (Value.slice none 0 0)).length by have := HLEN.out; have hm : Nat.min L.length n = min L.length n := rfl; rw [List.length_replicate]; omega)
  clear hcs
  go_enter Try.func22, Try.ntmps22
  go_wp2_with fail
  go_step3
  go_wp2_with (with_reducible refine wpList_copy_splice rfl (.tmp 16) (.tmp 17) _ _ rfl 26 Try.underlying22 hsz1 (some ⟨w.heap.size + 1, 0, none⟩) A n n L.length cap rfl rfl (w.heap.size + 1) 0 (List.replicate n (Value.slice none 0 0)) 26 HCUR.out cs HLEN.out (fun h => ⟨rfl, HPOS.out h⟩) HFIT.out HONE.out (w.heap.size + 1) _ (Below.refl _ _) (Nat.le_refl _) ?_; intro w1 hg1 hb1)
  have hO1 : OpR w n L (fun _ => false) (w.heap.size + 1) w1 := OpR.start HV.out (by have := hg1; rw [HCS.out] at this; exact this)
  have hb2 : Below w.heap.size w w1 := (((Below.refl _ w).alloc (Nat.le_refl _) _).alloc (by simp) _).trans (hb1.mono (Nat.le_succ _))
  have hT1 : TS w (w.heap.size + 2) n L (fun _ => false) [] w.heap.size (.slice none 0 0) w1 :=
    ⟨World.ownsRow_nil _ _ _ _, ((World.rowIs_made w (.bool false) n _).alloc _).of_block (hb1.block _ (Nat.lt_succ_self _)), hb2, Way.zero n L, by have := hb1.size; simp at this; omega⟩
  have HO := Lib.hid hO1
  have HT := Lib.hid hT1
  clear hg1 hb1 hb2 hO1 hT1 HCUR HPOS HONE HCS HLEN HV hmk hmk2
  go_wp2_with fail
  go_simp
  go_step3
  go_wp2_with fail
  go_loopg [6] (n) (fun m s6 wr => ∃ (D : Nat → Bool) (O : List Nat), m + O.length = n ∧ Hid (TS w (w.heap.size + 2) n L D O w.heap.size s6 wr) ∧ Hid (OpR w n L D (w.heap.size + 1) wr))
  case atStart => exact ⟨_, [], by simp, HT, HO⟩
  case round =>
    clear HT HO
    obtain ⟨D, O, hmo, HT, HO⟩ := hrel
    have HMO := Lib.hid hmo
    clear hmo
    obtain ⟨G, hG⟩ : ∃ G, G = gk := ⟨_, rfl⟩
    subst hG
    obtain ⟨W, hW⟩ : ∃ W, W = wr := ⟨_, rfl⟩
    subst hW
    obtain ⟨v, hv6⟩ : ∃ v, v = u6 := ⟨_, rfl⟩
    subst hv6
    go_wp2_with fail
    go_step3
    go_wp2_with fail
    go_step3
    go_wp2_with fail
    go_loopg [6, 9] (n) (fun m s6 s9 wx => ∃ k : Nat, k + m = n ∧ s9 = .int .i64 (k : Int) ∧ s6 = v ∧ Hid (TS w (w.heap.size + 2) n L D O w.heap.size v wx) ∧ Hid (OpR w n L D (w.heap.size + 1) wx) ∧ Hid (∀ j, j < k → can n L D j = false))
    case atStart => exact ⟨0, by omega, rfl, rfl, HT, HO, Lib.hid fun j hj => by omega⟩
    case round =>
      clear HT HO
      obtain ⟨k, hkm, rfl, rfl, HT, HO, HK⟩ := hrel
      have HKM := Lib.hid hkm
      obtain ⟨GI, hGI⟩ : ∃ G, G = gk := ⟨_, rfl⟩
      subst hGI
      by_cases hk : k < n
      · have hkz : ((k : Int) == (n : Int)) = false := by simp; omega
        have hkz2 : (k : Int) < (n : Int) := by omega
        have cd := HT.out.row.cell hk
        have next : can n L D k = false → Hid (∀ j, j < k + 1 → can n L D j = false) := fun hn => Lib.hid fun j hj => by
          by_cases e : j = k
          · subst e; exact hn
          · exact HK.out j (by omega)
        clear hkm
        cases hd : D k with
        | true =>
          rw [hd] at cd
          have HS := next (can_done hd)
          clear next hd
          go_wp2_with fail
          go_roundg (n - (k + 1))
          case measure => have := HKM.out; omega
          case rel => exact ⟨k + 1, by have := HKM.out; omega, by go_num, rfl, HT, HO, HS⟩
        | false =>
          rw [hd] at cd
          have HDF := Lib.hid hd
          obtain ⟨V, Q, hr1, hr2⟩ := HO.out
          have hcv := hr1.cell hk
          obtain ⟨⟨B, c, hv, h1, h2, h3, h4, h5⟩, p, hp1, hp2⟩ := hr2 k hk
          rw [hv] at hcv
          have HR1 := Lib.hid hr1
          have HR2 := Lib.hid hr2
          have HFR := Lib.hid (show freeB n (rowL L k) D = freeB n (Q k) D by rw [hp1]; exact freeB_app hp2)
          have HB := Lib.hid h3
          have HB5 := Lib.hid h5
          have HX := Lib.hid next
          clear hr1 hr2 h3 h4 h5 hp1 hp2 hv next hd
          obtain ⟨l, hl⟩ : ∃ l, l = Q k := ⟨_, rfl⟩
          have HQ := Lib.hid hl
          rw [← hl] at hcv h1 h2 HFR HB HB5
          clear hl
          obtain ⟨X, hXw⟩ : ∃ X, X = wr := ⟨_, rfl⟩
          subst hXw
          go_wp2_with fail
          go_loopg [35] (l.length) (fun m s35 wy => ∃ a : Nat, a + m = l.length ∧ s35 = .int .i64 (a : Int) ∧ wy = X ∧ Hid (∀ x ∈ l.take a, inn n x = true → D x.toNat = true))
          case atStart => exact ⟨0, by omega, rfl, rfl, Lib.hid (by simp)⟩
          case round =>
            obtain ⟨a, ham, rfl, rfl, HA⟩ := hrel
            have HAM := Lib.hid ham
            by_cases ha : a < l.length
            · have haz : (a : Int) < (l.length : Int) := by omega
              have hcap : ¬ c = a := by omega
              have hcap2 : ¬ c ≤ a := by omega
              obtain ⟨b, off, rfl, hc⟩ := is_at (HB.out.below HT.out.base) ha
              have HTK := Lib.hid (List.take_succ_eq_append_getElem ha)
              have HXM := Lib.hid (show l[a] ∈ l from List.getElem_mem ha)
              generalize l[a] = x at *
              have cw := within_any x n wr
              clear ham
              cases hin : inn n x with
              | false =>
                rw [hin] at cw
                have HS := Lib.hid (show ∀ y ∈ l.take (a + 1), inn n y = true → D y.toNat = true from fun y hy hi => by
                  rw [HTK.out] at hy
                  rcases List.mem_append.1 hy with hy | hy
                  · exact HA.out y hy hi
                  · rw [List.mem_singleton.1 hy, hin] at hi; cases hi)
                clear hin
                go_wp2_with fail
                (with_reducible refine cw.mono ?_)
                rintro e w1 ⟨rfl, rfl⟩
                clear cw
                go_wp2_with fail
                go_roundg (l.length - (a + 1))
                case measure => have := HAM.out; omega
                case rel => exact ⟨a + 1, by have := HAM.out; omega, by go_num, rfl, HS⟩
              | true =>
                rw [hin] at cw
                obtain ⟨m, rfl⟩ : ∃ m : Nat, x = (m : Int) := ⟨x.toNat, (inn_lt hin).2.symm⟩
                have hm : m < n := by have := (inn_lt hin).1; simpa using this
                have hmz : (m : Int) < (n : Int) := by omega
                have HIN := Lib.hid hin
                have cm := HT.out.row.cell hm
                clear hin
                cases hdm : D m with
                | true =>
                  rw [hdm] at cm
                  have HS := Lib.hid (show ∀ y ∈ l.take (a + 1), inn n y = true → D y.toNat = true from fun y hy hi => by
                    rw [HTK.out] at hy
                    rcases List.mem_append.1 hy with hy | hy
                    · exact HA.out y hy hi
                    · rw [List.mem_singleton.1 hy]; simpa using hdm)
                  clear hdm
                  go_wp2_with fail
                  (with_reducible refine cw.mono ?_)
                  rintro e w1 ⟨rfl, rfl⟩
                  clear cw
                  go_wp2_with fail
                  go_roundg (l.length - (a + 1))
                  case measure => have := HAM.out; omega
                  case rel => exact ⟨a + 1, by have := HAM.out; omega, by go_num, rfl, HS⟩
                | false =>
                  rw [hdm] at cm
                  have HS := HX.out (can_held (by rw [HFR.out]; exact freeB_not HXM.out HIN.out (by simpa using hdm)))
                  have hfz := HR1.out.frozen k
                  have hsz := HT.out.base.size
                  clear hdm
                  go_wp2_with fail
                  (with_reducible refine cw.mono ?_)
                  rintro e w1 ⟨rfl, rfl⟩
                  clear cw
                  go_wp2_with fail
                  go_roundg (n - (k + 1))
                  case measure => have := HKM.out; omega
                  case rel =>
                    refine ⟨k + 1, by have := HKM.out; omega, by go_num, rfl, Lib.hid (HT.out.other (Nat.le_succ _) (by omega) (Nat.lt_succ_self _) _ _), Lib.hid (OpR.cut (at' := a) HR1.out HR2.out hk ?_ (by rw [← HQ.out]; exact HA.out)), HS⟩
                    rw [← HQ.out]
                    exact ⟨_, _, by rw [List.length_drop], by rw [List.length_drop]; omega, by rw [List.length_drop]; omega, is_drop HB.out a, (fun h => by cases h), fun z hz => HB5.out z (List.mem_of_mem_drop hz)⟩
            · have haz : ¬ (a : Int) < (l.length : Int) := by omega
              have hcan := Lib.hid (can_yes (n := n) (L := L) HDF.out (by rw [HFR.out]; exact freeB_iff.2 (by have := HA.out; rw [List.take_of_length_le (by omega)] at this; exact this)))
              have hfz := HT.out.row.frozen k
              have hst := HT.out.own
              have hsz := HT.out.size
              have hle : (iz O).length ≤ n := by have := HT.out.len; rw [iz_len]; omega
              have HOW := Lib.hid (show OwnZ (wr.setCell ⟨w.heap.size, k, none⟩ (.bool true)) (w.heap.size + 2) u6 (iz O) from own_stay hst fun b hb => Below.heap_setCell _ _ _ _ (by have := (hst.lt b hb).1; dsimp only; omega))
              clear hst ham
              go_wp2_with (at_builtin; refine wpList_append_own _ rfl _ _ 26 rfl (w.heap.size + 2) 3 i0 (.int .i64 0) 1 8 Try.underlying26 hi hz0 hz1 hz2 rfl (by decide) _ _ _ rfl (HOW.out.alloc _) ⟨wr.heap.size, 0, none⟩ 1 1 [.int .i64 (k : Int)] rfl rfl (one_cell_at (by simp) _ _) ?c2 ?c3 ?c4 ?c5 ?_)
              case c2 => first | rfl | (intro u hu; simp at hu; subst hu; rfl)
              case c3 => unfold maxLen; omega
              case c4 => omega
              case c5 => first | omega | (rw [alloc_size]; simp; omega)
              intro v' w3 hown' hgrow' _
              have HN2 := Lib.hid (HT.out.step hk hcan.out HK.out (Nat.le_refl _) (by omega) hown' hgrow')
              have HO2 : Hid (OpR w n L (upd D k) (w.heap.size + 1) w3) := Lib.hid (HO.out.keep (by
                have hlt : w.heap.size + 1 < wr.heap.size := by omega
                rw [hgrow'.block (w.heap.size + 1) (by rw [alloc_size]; simp; omega) (fun e => by have := ((HOW.out.alloc (.cells #[.int .i64 (k : Int)] 3)).lt _ e.symm).1; omega), Below.heap_alloc _ _ _ (by simp; omega)]
                exact Below.heap_setCell _ _ _ _ (by dsimp only; omega)) fun i hi => upd_mono hi)
              clear hown' hgrow'
              go_wp2_with fail
              rw [Exit.noGoto_exit]
              go_wp2_with fail
              go_roundg (n - (O.length + 1))
              case measure => have := HMO.out; have := HN2.out.len; simp at this; omega
              case rel => exact ⟨_, O ++ [k], by have := HN2.out.len; simp at this ⊢; omega, HN2, HO2⟩
      · have hkn : ((k : Int) == (n : Int)) = true := by simp; omega
        have HR := Lib.hid (HT.out.stop (Nat.le_add_right _ _) fun j hj => HK.out j (by omega))
        clear hkm
        go_wp2_with fail
        first | (rw [Exit.noGoto_exit]; go_wp2_with fail) | skip
        first | rw [Exit.noGoto_ret] | skip
        exact bodyPost_ret (v := .tuple #[u6, .slice (some ⟨w.heap.size, 0, none⟩) n n]) (by simp [results, Try.results22, go_sem]) rfl HR.out
end Go.Proofs.Ytbacphifmbjooaa
