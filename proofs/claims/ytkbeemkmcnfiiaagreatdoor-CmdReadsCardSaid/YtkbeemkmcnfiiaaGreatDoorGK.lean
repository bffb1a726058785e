/- Several texts in one: LexNm, ParN. -/
import Derived.Test.YtkbeemkmcnfiiaaGreatDoorMLexRL
import Derived.Test.YtkbeemkmcnfiiaaGreatDoorGI
import Derived.Test.YtkbeemkmcnfiiaaGreatDoorGH
import Derived.Test.YtkbeemkmcnfiiaaGreatDoorGG
namespace Go.Proofs.YtkbeemkmcnfiiaaGreatDoor
/- The contracts of lex.Word, lex.Name, the document's own Reserved, Name: both answer alike. -/
section
open Go.RowKit

def words : List ByteArray := [⟨#[116, 114, 117, 101]⟩, ⟨#[102, 97, 108, 115, 101]⟩, ⟨#[105, 102]⟩, ⟨#[108, 101, 110]⟩, ⟨#[99, 97, 116]⟩, ⟨#[99, 117, 116]⟩, ⟨#[104, 97, 115]⟩, ⟨#[117, 112]⟩]
theorem neT {s c : ByteArray} (h : s ≠ c) : (s.toList == c.toList) = false := by
  rw [← beq_toListBytes]
  cases hb : (s == c) with
  | false => rfl
  | true => exact absurd ((beqB s c).1 hb) h
theorem neL {s c : ByteArray} {l : List UInt8} (h : s ≠ c) (hl : c.toList = l) : (s.toList == l) = false := by rw [← hl]; exact neT h
set_option maxHeartbeats 2000000 in
set_option maxRecDepth 100000 in
theorem word_any (s : ByteArray) (B : Bool) (hB : B = true ↔ s ∈ words) (w : World) : Calls Tryz.prog 46 #[.string s] w fun e w' => e = .returned (.bool B) ∧ w' = w := by
  by_cases h : s ∈ words
  · obtain rfl := hB.2 h
    clear hB
    unfold words at h
    simp only [List.mem_cons, List.not_mem_nil, or_false] at h
    rcases h with rfl | rfl | rfl | rfl | rfl | rfl | rfl | rfl
    all_goals
      go_enter Tryz.func46, Tryz.ntmps46
      go_wp2
      go_ret
      exact ⟨rfl, rfl⟩
  · obtain rfl : B = false := by
      cases B with
      | false => rfl
      | true => exact absurd (hB.1 rfl) h
    clear hB
    unfold words at h
    simp only [List.mem_cons, List.not_mem_nil, or_false, not_or] at h
    obtain ⟨h1, h2, h3, h4, h5, h6, h7, h8⟩ := h
    have a1 := neL h1 (show _ = [116, 114, 117, 101] by decide +kernel)
    have a2 := neL h2 (show _ = [102, 97, 108, 115, 101] by decide +kernel)
    have a3 := neL h3 (show _ = [105, 102] by decide +kernel)
    have a4 := neL h4 (show _ = [108, 101, 110] by decide +kernel)
    have a5 := neL h5 (show _ = [99, 97, 116] by decide +kernel)
    have a6 := neL h6 (show _ = [99, 117, 116] by decide +kernel)
    have a7 := neL h7 (show _ = [104, 97, 115] by decide +kernel)
    have a8 := neL h8 (show _ = [117, 112] by decide +kernel)
    have b1 := neT h1
    have b2 := neT h2
    have b3 := neT h3
    have b4 := neT h4
    have b5 := neT h5
    have b6 := neT h6
    have b7 := neT h7
    have b8 := neT h8
    clear h1 h2 h3 h4 h5 h6 h7 h8
    go_enter Tryz.func46, Tryz.ntmps46
    go_wp2
    go_ret
    exact ⟨rfl, rfl⟩
set_option maxHeartbeats 2000000 in
set_option maxRecDepth 100000 in
theorem reserved_any (s : ByteArray) (B : Bool) (hB : B = true ↔ s ∈ words) (w : World) : Calls Tryz.prog 50 #[.string s] w fun e w' => e = .returned (.bool B) ∧ Below w.heap.size w w' := by
  have hb := below_alloc w (.cells (words.map Value.string).toArray 9)
  have hcell : ∀ j c, words[j]? = some c → (w.alloc (.cells (words.map Value.string).toArray 9)).cell? ⟨w.heap.size, j, none⟩ = some (.string c) := by
    intro j c hc
    rw [cells_of_alloc]
    simp [hc]
  obtain ⟨w0, hw0⟩ : ∃ w0, w.alloc (.cells (words.map Value.string).toArray 9) = w0 := ⟨_, rfl⟩
  rw [hw0] at hb hcell
  have hw0' : w.alloc (.cells #[.string ⟨#[116, 114, 117, 101]⟩, .string ⟨#[102, 97, 108, 115, 101]⟩, .string ⟨#[105, 102]⟩, .string ⟨#[108, 101, 110]⟩, .string ⟨#[99, 97, 116]⟩, .string ⟨#[99, 117, 116]⟩, .string ⟨#[104, 97, 115]⟩, .string ⟨#[117, 112]⟩] 9) = w0 := hw0
  have HC := Lib.hid hcell
  have HB := Lib.hid hb
  have HBB := Lib.hid hB
  clear hcell hb hw0 hB
  go_enter Tryz.func50, Tryz.ntmps50
  go_wp2_with fail
  go_loopg [4] (8) (fun n iv wr => ∃ i : Nat, i + n = 8 ∧ iv = .int .i64 (i : Int) ∧ wr = w0 ∧ Hid (∀ j c, j < i → words[j]? = some c → s ≠ c))
  case atStart => exact ⟨0, rfl, rfl, rfl, Lib.hid (fun j c h => absurd h (Nat.not_lt_zero j))⟩
  case round =>
    obtain ⟨i, hi, rfl, rfl, HJ⟩ := hrel
    by_cases hlt : i < 8
    · have hiz : (i : Int) < 8 := by omega
      obtain ⟨c, hc⟩ : ∃ c, words[i]? = some c := ⟨_, List.getElem?_eq_getElem (show i < words.length from hlt)⟩
      have hcl := HC.out i c hc
      have HI := Lib.hid hi
      by_cases hsc : c = s
      · have ht : B = true := HBB.out.2 (hsc ▸ List.mem_of_getElem? hc)
        have HT := Lib.hid ht
        have hq : (c.toList == s.toList) = true := by rw [hsc]; exact beq_self_eq_true _
        clear ht hc hsc
        go_wp2_with fail
        go_ret
        exact ⟨by rw [HT.out]; rfl, HB.out⟩
      · have hq : (c.toList == s.toList) = false := neT hsc
        have hnx : ∀ j d, j < i + 1 → words[j]? = some d → s ≠ d := by
          intro j d hj hd
          rcases Nat.lt_or_eq_of_le (Nat.le_of_lt_succ hj) with h | h
          · exact HJ.out j d h hd
          · subst h
            rw [hc] at hd
            injection hd with hd
            subst hd
            exact fun e => hsc e.symm
        have HNX := Lib.hid hnx
        clear hnx hc hsc
        go_wp2_with fail
        go_roundg (gk - 1)
        case measure => have := HI.out; omega
        case rel => exact ⟨i + 1, by have := HI.out; omega, by go_num, rfl, HNX⟩
    · have hiz : ¬ (i : Int) < 8 := by omega
      have hf : B = false := by
        refine Bool.eq_false_iff.2 fun hm => ?_
        obtain ⟨j, hj⟩ := List.getElem?_of_mem (HBB.out.1 hm)
        have hl := (List.getElem?_eq_some_iff.1 hj).1
        have hl8 : words.length = 8 := rfl
        exact HJ.out j s (by omega) hj rfl
      have HF := Lib.hid hf
      clear hf
      go_wp2_with fail
      go_ret
      exact ⟨by rw [HF.out]; rfl, HB.out⟩
end
/- The contracts of lex.Name and the document's own Name: whether a text is a name, told by its tokens. -/
section
open Go.RowKit

theorem bytes_of (s : ByteArray) : (⟨s.data.toList.toArray⟩ : ByteArray) = s := by cases s; simp
theorem word_isL (s : ByteArray) : s ∈ words ↔ isWordL s.data.toList = true := by
  have e : ∀ l : List UInt8, s.data.toList = l ↔ s = ⟨l.toArray⟩ := fun l => ⟨fun h => by rw [← h, bytes_of], fun h => by rw [h]⟩
  unfold words isWordL
  simp only [List.mem_cons, List.not_mem_nil, or_false, List.contains_cons, List.contains_nil, Bool.or_false, Bool.or_eq_true, beq_iff_eq]
  rw [e, e, e, e, e, e, e, e]
theorem deep_prog (s : ByteArray) (w : World) (h : 400 < s.size) (hs : s.size ≤ 9223372036854775807) :
    Calls Tryz.prog 45 #[.string s] w fun e w' => e = .returned (.tuple #[.slice none 0 0, .int .i64 400, .int .i64 7]) ∧ Below w.heap.size w w' := by
  have hz : (400 : Int) < (s.size : Int) := by omega
  clear h
  go_enter Tryz.func45, Tryz.ntmps45
  go_wp2
  go_step3
  go_wp2
  rw [Exit.noGoto_ret]
  exact bodyPost_ret (v := .tuple #[.slice none 0 0, .int .i64 400, .int .i64 7]) (by simp [results, Tryz.results45, go_sem]) rfl ⟨rfl, Below.refl _ _⟩
theorem deep_ref (s : ByteArray) (w : World) (h : 400 < s.size) (hs : s.size ≤ 9223372036854775807) :
    Calls Tryz.prog 49 #[.string s] w fun e w' => e = .returned (.tuple #[.slice none 0 0, .int .i64 400, .int .i64 7]) ∧ Below w.heap.size w w' := by
  have hz : (400 : Int) < (s.size : Int) := by omega
  clear h
  go_enter Tryz.func49, Tryz.ntmps49
  go_wp2
  exact bodyPost_ret (v := .tuple #[.slice none 0 0, .int .i64 400, .int .i64 7]) (by simp [results, Tryz.results49, go_sem]) rfl ⟨rfl, Below.refl _ _⟩
/-- A text without tokens is no name. -/
theorem bad_prog (s : ByteArray) (k f : Int) (hf : f = 5 ∨ f = 7) (w : World) (hL : Calls Tryz.prog 45 #[.string s] w fun e w' => e = .returned (.tuple #[.slice none 0 0, .int .i64 k, .int .i64 f]) ∧ Below w.heap.size w w') :
    Calls Tryz.prog 25 #[.string s] w fun e w' => e = .returned (.bool false) ∧ Below w.heap.size w w' := by
  rcases hf with rfl | rfl
  all_goals
    go_enter Tryz.func25, Tryz.ntmps25
    go_wp2_with fail
    refine hL.mono ?_
    rintro e w1 ⟨rfl, b1⟩
    go_wp2
    go_ret
    exact ⟨rfl, b1⟩
theorem bad_ref (s : ByteArray) (k f : Int) (hf : f = 5 ∨ f = 7) (w : World) (hL : Calls Tryz.prog 49 #[.string s] w fun e w' => e = .returned (.tuple #[.slice none 0 0, .int .i64 k, .int .i64 f]) ∧ Below w.heap.size w w') :
    Calls Tryz.prog 28 #[.string s] w fun e w' => e = .returned (.bool false) ∧ Below w.heap.size w w' := by
  rcases hf with rfl | rfl
  all_goals
    go_enter Tryz.func28, Tryz.ntmps28
    go_wp2_with fail
    refine hL.mono ?_
    rintro e w1 ⟨rfl, b1⟩
    go_wp2
    go_ret
    exact ⟨rfl, b1⟩
theorem ref_y (s : ByteArray) (ts : List Tk) (w : World) (hs : s.size ≤ 400) (h : lexL s.data.toList = .ok ts) :
    Calls Tryz.prog 49 #[.string s] w fun e w' => Below w.heap.size w w' ∧ ∃ ao cap, e = .returned (.tuple #[.slice ao (ts.length + 1 : Nat) cap, .int .i64 0, .int .i64 0]) ∧ ts.length + 1 ≤ cap ∧ TkAt w' ao (ts ++ [endT s.size]) := by
  refine (reflex_any s w (by omega)).mono ?_
  rintro e w' ⟨h1, h2⟩
  rw [if_neg (by omega), h] at h2
  exact ⟨h1, h2⟩
set_option maxHeartbeats 4000000 in
set_option maxRecDepth 100000 in
/-- Of a text that has tokens: by the first one. -/
theorem ok_names (s : ByteArray) (ts : List Tk) (hs : s.size ≤ 400) (hZ : lexL s.data.toList = .ok ts) :
    ∃ D : Bool, D = nameB s.data.toList ∧ (∀ w, Env7 w → Calls Tryz.prog 25 #[.string s] w fun e w' => e = .returned (.bool D) ∧ Below w.heap.size w w') ∧ (∀ w, Env7 w → Calls Tryz.prog 28 #[.string s] w fun e w' => e = .returned (.bool D) ∧ Below w.heap.size w w') := by
  have hfew := lex_few hZ
  have cL := fun w hE => lex_yes s ts w hs hZ hE
  have cR := fun w => ref_y s ts w hs hZ
  obtain ⟨n, hn⟩ : ∃ n, ts.length = n := ⟨_, rfl⟩
  obtain ⟨t, ht⟩ : ∃ t, (ts ++ [endT s.size])[0]? = some t := ⟨_, List.getElem?_eq_getElem (by simp)⟩
  have HT := Lib.hid ht
  have hn2 : ((n : Int) + 1 == 2) = decide (n = 1) := by
    by_cases h : n = 1
    · rw [decide_eq_true h, h]; rfl
    · rw [decide_eq_false h]; exact beq_eq_false_iff_ne.2 (by omega)
  by_cases hk : t.k = 3
  · obtain ⟨t0, ts0, rfl⟩ : ∃ t0 ts0, ts = t0 :: ts0 := by
      cases ts with
      | nil =>
        simp only [List.nil_append, List.getElem?_cons_zero, Option.some.injEq] at ht
        rw [← ht] at hk
        exact absurd (show (0 : Nat) = 3 from hk) (by decide)
      | cons a l => exact ⟨a, l, rfl⟩
    simp only [List.cons_append, List.getElem?_cons_zero, Option.some.injEq] at ht
    subst ht
    by_cases hS : t0.s = s.data.toList
    · obtain rfl := name_alone hZ hk hS
      obtain rfl : n = 1 := hn.symm
      obtain ⟨B, hB⟩ : ∃ B : Bool, B = true ↔ s ∈ words := by
        by_cases h : s ∈ words
        · exact ⟨true, by simp [h]⟩
        · exact ⟨false, by simp [h]⟩
      have cW := fun w => word_any s B hB w
      have cV := fun w => reserved_any s B hB w
      have hSe : (⟨t0.s.toArray⟩ : ByteArray) = s := by rw [hS]
      have hD : (!B) = nameB s.data.toList := by
        have hw := word_isL s
        unfold nameB
        rw [hZ]
        dsimp only
        rw [hk, hS, decide_eq_true (by rw [size_list]; exact hs)]
        cases B with
        | false =>
          cases hi : isWordL s.data.toList with
          | false => simp
          | true => exact absurd (hB.2 (hw.2 hi)) (by decide)
        | true => rw [hw.1 (hB.1 rfl)]; simp
      have HD := Lib.hid hD
      clear hZ hS hn hn2 hD
      refine ⟨!B, HD.out, fun w hE => ?_, fun w hE => ?_⟩
      · have c1 := cL w hE
        clear cL cR cV
        go_enter Tryz.func25, Tryz.ntmps25
        go_wp2_with fail
        refine c1.mono ?_
        rintro e w1 ⟨b1, ao, cap, rfl, hcap, hTk⟩
        obtain ⟨g, rfl, hg, hc⟩ := hTk (by simp)
        obtain ⟨x0, x1, -, -⟩ := hc 0 _ HT.out
        rw [hk] at x0
        rw [hSe] at x1
        simp only [Nat.zero_mul, Nat.zero_add] at x0 x1
        clear hc hTk c1
        go_wp2_with fail
        refine (cW _).mono ?_
        rintro e w2 ⟨rfl, rfl⟩
        cases B
        all_goals
          go_wp2
          go_ret
          exact ⟨rfl, b1⟩
      · have c1 := cR w
        clear cL cR cW
        go_enter Tryz.func28, Tryz.ntmps28
        go_wp2_with fail
        refine c1.mono ?_
        rintro e w1 ⟨b1, ao, cap, rfl, hcap, hTk⟩
        obtain ⟨g, rfl, hg, hc⟩ := hTk (by simp)
        obtain ⟨x0, x1, -, -⟩ := hc 0 _ HT.out
        rw [hk] at x0
        rw [hSe] at x1
        simp only [Nat.zero_mul, Nat.zero_add] at x0 x1
        clear hc hTk c1
        go_wp2_with fail
        refine (cV _).mono ?_
        rintro e w2 ⟨rfl, b2⟩
        cases B
        all_goals
          go_wp2
          go_ret
          exact ⟨rfl, below_to b1 b2⟩
    · have hne : (⟨t0.s.toArray⟩ : ByteArray) ≠ s := fun h => hS (by rw [← h])
      have hq := neT hne
      obtain ⟨S, hSS⟩ : ∃ S : ByteArray, (⟨t0.s.toArray⟩ : ByteArray) = S := ⟨_, rfl⟩
      rw [hSS] at hq
      rw [hn] at hfew
      simp only [hn] at cL cR
      have hD : false = nameB s.data.toList := by
        unfold nameB
        rw [hZ]
        cases ts0 with
        | nil => dsimp only; rw [beq_eq_false_iff_ne.2 hS]; simp
        | cons a l => dsimp only; simp
      have HD := Lib.hid hD
      clear hZ hS hne hD
      refine ⟨false, HD.out, fun w hE => ?_, fun w hE => ?_⟩
      · have c1 := cL w hE
        clear cL cR
        go_enter Tryz.func25, Tryz.ntmps25
        go_wp2_with fail
        refine c1.mono ?_
        rintro e w1 ⟨b1, ao, cap, rfl, hcap, hTk⟩
        obtain ⟨g, rfl, hg, hc⟩ := hTk (by simp)
        obtain ⟨x0, x1, -, -⟩ := hc 0 _ HT.out
        rw [hk] at x0
        rw [hSS] at x1
        simp only [Nat.zero_mul, Nat.zero_add] at x0 x1
        clear hc hTk c1
        go_wp2
        go_ret
        exact ⟨rfl, b1⟩
      · have c1 := cR w
        clear cL cR
        by_cases hn1 : n = 1
        · rw [decide_eq_true hn1] at hn2
          go_enter Tryz.func28, Tryz.ntmps28
          go_wp2_with fail
          refine c1.mono ?_
          rintro e w1 ⟨b1, ao, cap, rfl, hcap, hTk⟩
          obtain ⟨g, rfl, hg, hc⟩ := hTk (by simp)
          obtain ⟨x0, x1, -, -⟩ := hc 0 _ HT.out
          rw [hk] at x0
          rw [hSS] at x1
          simp only [Nat.zero_mul, Nat.zero_add] at x0 x1
          clear hc hTk c1 hn1
          go_wp2
          go_ret
          exact ⟨rfl, b1⟩
        · rw [decide_eq_false hn1] at hn2
          go_enter Tryz.func28, Tryz.ntmps28
          go_wp2_with fail
          refine c1.mono ?_
          rintro e w1 ⟨b1, ao, cap, rfl, hcap, hTk⟩
          clear hTk c1 hn1
          go_wp2
          go_ret
          exact ⟨rfl, b1⟩
  · have hk3 : ((t.k : Int) == 3) = false := beq_eq_false_iff_ne.2 (by omega)
    rw [hn] at hfew
    simp only [hn] at cL cR
    have hD : false = nameB s.data.toList := by
      unfold nameB
      rw [hZ]
      match ts, ht with
      | [], _ => dsimp only; simp
      | [a], ht =>
        obtain rfl : a = t := by simpa using ht
        dsimp only; rw [beq_eq_false_iff_ne.2 hk]; simp
      | a :: b :: l, _ => dsimp only; simp
    have HD := Lib.hid hD
    clear hZ hn hD
    obtain ⟨K, hK⟩ : ∃ K : Int, (t.k : Int) = K := ⟨_, rfl⟩
    rw [hK] at hk3
    refine ⟨false, HD.out, fun w hE => ?_, fun w hE => ?_⟩
    · have c1 := cL w hE
      clear cL cR
      go_enter Tryz.func25, Tryz.ntmps25
      go_wp2_with fail
      refine c1.mono ?_
      rintro e w1 ⟨b1, ao, cap, rfl, hcap, hTk⟩
      obtain ⟨g, rfl, hg, hc⟩ := hTk (by simp)
      obtain ⟨x0, -, -, -⟩ := hc 0 _ HT.out
      rw [hK] at x0
      simp only [Nat.zero_mul] at x0
      clear hc hTk c1 hk hK
      go_wp2
      go_ret
      exact ⟨rfl, b1⟩
    · have c1 := cR w
      clear cL cR
      by_cases hn1 : n = 1
      · rw [decide_eq_true hn1] at hn2
        go_enter Tryz.func28, Tryz.ntmps28
        go_wp2_with fail
        refine c1.mono ?_
        rintro e w1 ⟨b1, ao, cap, rfl, hcap, hTk⟩
        obtain ⟨g, rfl, hg, hc⟩ := hTk (by simp)
        obtain ⟨x0, -, -, -⟩ := hc 0 _ HT.out
        rw [hK] at x0
        simp only [Nat.zero_mul] at x0
        clear hc hTk c1 hk hK hn1
        go_wp2
        go_ret
        exact ⟨rfl, b1⟩
      · rw [decide_eq_false hn1] at hn2
        go_enter Tryz.func28, Tryz.ntmps28
        go_wp2_with fail
        refine c1.mono ?_
        rintro e w1 ⟨b1, ao, cap, rfl, hcap, hTk⟩
        clear hTk c1 hk hK hn1
        go_wp2
        go_ret
        exact ⟨rfl, b1⟩
theorem all_names (s : ByteArray) (hs : s.size ≤ 9223372036854775807) :
    ∃ D : Bool, D = nameB s.data.toList ∧ (∀ w, Env7 w → Calls Tryz.prog 25 #[.string s] w fun e w' => e = .returned (.bool D) ∧ Below w.heap.size w w') ∧ (∀ w, Env7 w → Calls Tryz.prog 28 #[.string s] w fun e w' => e = .returned (.bool D) ∧ Below w.heap.size w w') := by
  by_cases h4 : 400 < s.size
  · exact ⟨false, by unfold nameB; rw [decide_eq_false (by rw [size_list]; omega)]; rfl, fun w _ => bad_prog s 400 7 (.inr rfl) w (deep_prog s w h4 hs), fun w _ => bad_ref s 400 7 (.inr rfl) w (deep_ref s w h4 hs)⟩
  · cases hZ : lexL s.data.toList with
    | error p =>
      refine ⟨false, by unfold nameB; rw [hZ]; simp, fun w hE => bad_prog s p 5 (.inl rfl) w ((lex_no s p w (by omega) hZ hE).mono fun e w' h => ⟨h.2, h.1⟩), fun w _ => bad_ref s p 5 (.inl rfl) w ((reflex_any s w (by omega)).mono fun e w' h => ?_)⟩
      obtain ⟨h1, h2⟩ := h
      rw [if_neg h4, hZ] at h2
      exact ⟨h2, h1⟩
    | ok ts => exact ok_names s ts (by omega) hZ

theorem pname_any (s : ByteArray) (w : World) (hs : s.size ≤ 9223372036854775807) (hE : Env7 w) :
    Calls Tryz.prog 25 #[.string s] w fun e w' => e = .returned (.bool (nameB s.data.toList)) ∧ Below w.heap.size w w' := by
  obtain ⟨D, rfl, h, -⟩ := all_names s hs
  exact h w hE
theorem rname_any (s : ByteArray) (w : World) (hs : s.size ≤ 9223372036854775807) (hE : Env7 w) :
    Calls Tryz.prog 28 #[.string s] w fun e w' => e = .returned (.bool (nameB s.data.toList)) ∧ Below w.heap.size w w' := by
  obtain ⟨D, rfl, -, h⟩ := all_names s hs
  exact h w hE
end
end Go.Proofs.YtkbeemkmcnfiiaaGreatDoor
