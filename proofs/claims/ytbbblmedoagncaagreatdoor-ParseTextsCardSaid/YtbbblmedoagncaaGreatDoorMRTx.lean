/- palaverref07.Text: an expression as a formula. -/
import Derived.Test.YtbbblmedoagncaaGreatDoorGP
import Derived.Test.YtbbblmedoagncaaGreatDoorMVRefShow
import Derived.Test.YtbbblmedoagncaaGreatDoorMVDec
import Derived.Test.YtbbblmedoagncaaGreatDoorGE
import Derived.Test.YtbbblmedoagncaaGreatDoorGX
namespace Go.Proofs.YtbbblmedoagncaaGreatDoor
open Go.RowKit

/-- How it ends. -/
def RT (e : Ex) (w : World) (en : Ending) (w' : World) : Prop := en = .returned (.string ⟨(textE e).toArray⟩) ∧ Below w.heap.size w w'
/-- Four cells in a row's midst. -/
structure K4 (w : World) (g o : Nat) (a b c d : Value) : Prop where
  lt : g < w.heap.size
  c0 : w.cell? ⟨g, o, none⟩ = some a
  c1 : w.cell? ⟨g, o + 1, none⟩ = some b
  c2 : w.cell? ⟨g, o + 2, none⟩ = some c
  c3 : w.cell? ⟨g, o + 3, none⟩ = some d
theorem K4.later {w w' : World} {g o : Nat} {a b c d : Value} (h : K4 w g o a b c d) (hb : Below w.heap.size w w') : K4 w' g o a b c d :=
  ⟨Nat.lt_of_lt_of_le h.lt hb.size, (hb.cell (p := ⟨g, o, none⟩) h.lt).trans h.c0, (hb.cell (p := ⟨g, o + 1, none⟩) h.lt).trans h.c1, (hb.cell (p := ⟨g, o + 2, none⟩) h.lt).trans h.c2, (hb.cell (p := ⟨g, o + 3, none⟩) h.lt).trans h.c3⟩
/-- A kid where it lies: its cells, and its text by the call. -/
theorem kid_at {w : World} {S : Nat → Prop} {g o : Nat} {ks : List Ex} (hg : g < w.heap.size) (h : RowIn w S g o ks) {i : Nat} {e : Ex} (hi : ks[i]? = some e) :
    ∃ ao cap, K4 w g (o + i * 4) (.int .i64 e.op) (.int .i64 e.num) (.string ⟨e.str.toArray⟩) (.slice ao e.kids.length cap) ∧ ExIn w S e (EV e.op e.num ⟨e.str.toArray⟩ (.slice ao e.kids.length cap)) := by
  obtain ⟨v0, v1, v2, v3, c0, c1, c2, c3, he⟩ := h.at hi
  obtain ⟨ao, cap, hev, -⟩ := he.get
  obtain ⟨rfl, rfl, rfl, rfl⟩ := agg4 hev
  exact ⟨ao, cap, ⟨hg, c0, c1, c2, c3⟩, he⟩
set_option maxHeartbeats 4000000 in
set_option maxRecDepth 100000 in
theorem rtext_leaf (op n : Int) (s : List UInt8) (v : Value) (S : Nat → Prop) (w : World) (hv : ExIn w S (.mk op n s []) v) (ha : allB (.mk op n s []) = true) (hop : 1 ≤ op ∧ op ≤ 4) :
    Calls Tryz.prog 11 #[v] w (RT (.mk op n s []) w) := by
  obtain ⟨ao, cap, rfl, h2, h3, hr, hk⟩ := hv.get
  obtain ⟨-, hp, -⟩ := part_arity (all_part ha)
  unfold Ex.op Ex.num Ex.str Ex.kids at *
  dsimp only at *
  simp only [List.length_nil] at *
  have hX := four_new w (.int .i64 op) (.int .i64 n) (.string ⟨s.toArray⟩) (.slice ao 0 cap) 24
  have hbX := below_alloc w (.cells #[.int .i64 op, .int .i64 n, .string ⟨s.toArray⟩, .slice ao 0 cap] 24)
  obtain ⟨wX, hwX⟩ : ∃ wX, w.alloc (.cells #[.int .i64 op, .int .i64 n, .string ⟨s.toArray⟩, .slice ao 0 cap] 24) = wX := ⟨_, rfl⟩
  rw [hwX] at hX hbX
  obtain ⟨-, x0, x1, x2, x3, -⟩ := hX
  have : op = 1 ∨ op = 2 ∨ op = 3 ∨ op = 4 := by omega
  unfold RT
  rcases this with rfl | rfl | rfl | rfl
  · have hI := hr.2.1
    have c := dec_any n wX hI.1 hI.2
    rw [show textE (.mk 1 n s []) = Lib.itoa n by rw [textE]; rfl]
    clear hk hv
    go_enter Tryz.func11, Tryz.ntmps11
    go_wp2_with fail
    refine c.mono ?_
    rintro e w1 ⟨rfl, rfl⟩
    go_wp2_with fail
    exact bodyPost_ret (v := .string ⟨(Lib.itoa n).toArray⟩) (by simp [results, Tryz.results11, go_sem]) rfl ⟨rfl, hbX⟩
  · have hl := len_count s
    have hcl : countL s ≤ 100 := by
      simp [plainB, textB] at hp
      exact hp.2.2
    have hvl : validL s = true := by
      simp [plainB, textB] at hp
      exact hp.2.1
    have c := refquote_any ⟨s.toArray⟩ wX (by have : (⟨s.toArray⟩ : ByteArray).size = s.length := by simp [ByteArray.size]
                                              omega) (by simpa using hvl)
    rw [show (⟨s.toArray⟩ : ByteArray).data.toList = s by simp] at c
    rw [show textE (.mk 2 n s []) = quoteL s by rw [textE]; rfl]
    clear hk hv
    go_enter Tryz.func11, Tryz.ntmps11
    go_wp2_with fail
    refine c.mono ?_
    rintro e w1 ⟨rfl, b1⟩
    go_wp2_with fail
    exact bodyPost_ret (v := .string ⟨(quoteL s).toArray⟩) (by simp [results, Tryz.results11, go_sem]) rfl ⟨rfl, below_to hbX b1⟩
  · by_cases h1 : n = 1
    · subst h1
      rw [show textE (.mk 3 1 s []) = [116, 114, 117, 101] by rw [textE]; first | rfl | decide +kernel]
      clear hk hv
      go_enter Tryz.func11, Tryz.ntmps11
      go_wp2_with fail
      exact bodyPost_ret (v := .string ⟨#[116, 114, 117, 101]⟩) (by simp [results, Tryz.results11, go_sem]) rfl ⟨rfl, hbX⟩
    · have h1b : (n == 1) = false := by simpa using h1
      rw [show textE (.mk 3 n s []) = [102, 97, 108, 115, 101] by rw [textE, if_neg (by decide), if_neg (by decide), if_pos rfl, if_neg h1]; try (first | rfl | decide +kernel)]
      clear hk hv
      go_enter Tryz.func11, Tryz.ntmps11
      go_wp2_with fail
      exact bodyPost_ret (v := .string ⟨#[102, 97, 108, 115, 101]⟩) (by simp [results, Tryz.results11, go_sem]) rfl ⟨rfl, hbX⟩
  · rw [textE_name]
    clear hk hv
    go_enter Tryz.func11, Tryz.ntmps11
    go_wp2_with fail
    exact bodyPost_ret (v := .string ⟨s.toArray⟩) (by simp [results, Tryz.results11, go_sem]) rfl ⟨rfl, hbX⟩
set_option maxHeartbeats 4000000 in
set_option maxRecDepth 100000 in
theorem rtext_one (op n : Int) (s : ByteArray) (g o cap : Nat) (k : Ex) (ao : Option Addr) (c0 : Nat) (w : World) (hop : op = 5 ∨ op = 6) (hK : K4 w g o (.int .i64 k.op) (.int .i64 k.num) (.string ⟨k.str.toArray⟩) (.slice ao k.kids.length c0)) (hl : (textE k).length ≤ 100000000)
    (cK : ∀ w', Below w.heap.size w w' → Calls Tryz.prog 11 #[EV k.op k.num ⟨k.str.toArray⟩ (.slice ao k.kids.length c0)] w' (RT k w')) :
    Calls Tryz.prog 11 #[EV op n s (.slice (some ⟨g, o, none⟩) 1 cap)] w fun en w' => en = .returned (.string ⟨(ownL op [textE k]).toArray⟩) ∧ Below w.heap.size w w' := by
  have hX := four_new w (.int .i64 op) (.int .i64 n) (.string s) (.slice (some ⟨g, o, none⟩) 1 cap) 24
  have hbX := below_alloc w (.cells #[.int .i64 op, .int .i64 n, .string s, .slice (some ⟨g, o, none⟩) 1 cap] 24)
  obtain ⟨wX, hwX⟩ : ∃ wX, w.alloc (.cells #[.int .i64 op, .int .i64 n, .string s, .slice (some ⟨g, o, none⟩) 1 cap] 24) = wX := ⟨_, rfl⟩
  rw [hwX] at hX hbX
  have c := cK wX hbX
  have hgX := (hK.later hbX).lt
  obtain ⟨-, y0, y1, y2, y3⟩ := hK.later hbX
  obtain ⟨-, x0, x1, x2, x3, -⟩ := hX
  clear hK cK
  generalize k.op = kop at *
  generalize k.num = kn at *
  generalize (⟨k.str.toArray⟩ : ByteArray) = kstr at *
  generalize k.kids.length = kl at *
  unfold RT at c
  generalize textE k = t at *
  rcases hop with rfl | rfl
  · go_enter Tryz.func11, Tryz.ntmps11
    go_wp2_with fail
    refine c.mono ?_
    rintro e w1 ⟨rfl, b1⟩
    have HB := Lib.hid (below_to hbX b1)
    have hsz : (⟨t.toArray⟩ : ByteArray).size ≤ 100000000 := by simpa [ByteArray.size] using hl
    clear b1 hbX x0 x1 x2 x3 y0 y1 y2 y3 c
    go_wp2_with fail
    exact bodyPost_ret (v := .string ⟨(45 :: t).toArray⟩) (by simp [results, Tryz.results11, go_sem]; first | rfl | (apply ByteArray.ext; simp)) rfl ⟨rfl, HB.out⟩
  · go_enter Tryz.func11, Tryz.ntmps11
    go_wp2_with fail
    refine c.mono ?_
    rintro e w1 ⟨rfl, b1⟩
    have HB := Lib.hid (below_to hbX b1)
    have hsz : (⟨t.toArray⟩ : ByteArray).size ≤ 100000000 := by simpa [ByteArray.size] using hl
    clear b1 hbX x0 x1 x2 x3 y0 y1 y2 y3 c
    go_wp2_with fail
    exact bodyPost_ret (v := .string ⟨(33 :: t).toArray⟩) (by simp [results, Tryz.results11, go_sem]; first | rfl | (apply ByteArray.ext; simp)) rfl ⟨rfl, HB.out⟩
/-- The signs of two, as the program lays them. -/
def signs11 : Array Value := #[.string ⟨#[43]⟩, .string ⟨#[45]⟩, .string ⟨#[42]⟩, .string ⟨#[47]⟩, .string ⟨#[37]⟩, .string ⟨#[61]⟩, .string ⟨#[33, 61]⟩, .string ⟨#[60]⟩, .string ⟨#[60, 61]⟩, .string ⟨#[38]⟩, .string ⟨#[124]⟩]
theorem signs_at : ∀ k : Fin 11, signs11[k.val]? = some (.string ⟨(signL ((7 + k.val : Nat) : Int)).toArray⟩)
  | ⟨0, _⟩ => by kernel_rfl
  | ⟨1, _⟩ => by kernel_rfl
  | ⟨2, _⟩ => by kernel_rfl
  | ⟨3, _⟩ => by kernel_rfl
  | ⟨4, _⟩ => by kernel_rfl
  | ⟨5, _⟩ => by kernel_rfl
  | ⟨6, _⟩ => by kernel_rfl
  | ⟨7, _⟩ => by kernel_rfl
  | ⟨8, _⟩ => by kernel_rfl
  | ⟨9, _⟩ => by kernel_rfl
  | ⟨10, _⟩ => by kernel_rfl
  | ⟨k + 11, h⟩ => absurd h (by omega)
theorem sign_few : ∀ k : Fin 11, (signL ((7 + k.val : Nat) : Int)).length ≤ 2 := by decide +kernel
set_option maxHeartbeats 8000000 in
set_option maxRecDepth 100000 in
theorem rtext_two (op n : Int) (k : Nat) (hk : op = ((7 + k : Nat) : Int)) (hk11 : k < 11) (s : ByteArray) (g o cap : Nat) (a b : Ex) (ao bo : Option Addr) (ca cb : Nat) (w : World)
    (hA : K4 w g o (.int .i64 a.op) (.int .i64 a.num) (.string ⟨a.str.toArray⟩) (.slice ao a.kids.length ca)) (hB : K4 w g (o + 4) (.int .i64 b.op) (.int .i64 b.num) (.string ⟨b.str.toArray⟩) (.slice bo b.kids.length cb))
    (hla : (textE a).length ≤ 100000000) (hlb : (textE b).length ≤ 100000000)
    (cA : ∀ w', Below w.heap.size w w' → Calls Tryz.prog 11 #[EV a.op a.num ⟨a.str.toArray⟩ (.slice ao a.kids.length ca)] w' (RT a w'))
    (cB : ∀ w', Below w.heap.size w w' → Calls Tryz.prog 11 #[EV b.op b.num ⟨b.str.toArray⟩ (.slice bo b.kids.length cb)] w' (RT b w')) :
    Calls Tryz.prog 11 #[EV op n s (.slice (some ⟨g, o, none⟩) 2 cap)] w fun en w' => en = .returned (.string ⟨(ownL op [textE a, textE b]).toArray⟩) ∧ Below w.heap.size w w' := by
  have hX := four_new w (.int .i64 op) (.int .i64 n) (.string s) (.slice (some ⟨g, o, none⟩) 2 cap) 24
  have hbX := below_alloc w (.cells #[.int .i64 op, .int .i64 n, .string s, .slice (some ⟨g, o, none⟩) 2 cap] 24)
  obtain ⟨wX, hwX⟩ : ∃ wX, w.alloc (.cells #[.int .i64 op, .int .i64 n, .string s, .slice (some ⟨g, o, none⟩) 2 cap] 24) = wX := ⟨_, rfl⟩
  rw [hwX] at hX hbX
  have hbL := below_alloc wX (.cells signs11 9)
  have hcL := (cells_of_alloc wX signs11 9 k).trans (signs_at ⟨k, hk11⟩)
  have hsf := sign_few ⟨k, hk11⟩
  have hlL : wX.heap.size < (wX.alloc (.cells signs11 9)).heap.size := by rw [alloc_size]; omega
  dsimp only at hcL hsf
  rw [← hk] at hcL hsf
  have hown : ownL op [textE a, textE b] = 40 :: (textE a ++ 32 :: (signL op ++ 32 :: (textE b ++ [41]))) := by
    unfold ownL
    rw [if_neg (by omega), if_neg (by omega), if_pos (by omega)]
    rfl
  rw [hown]
  have hX1 := hX
  unfold signs11 at hbL hcL hlL
  obtain ⟨wL, hwL⟩ : ∃ wL, wX.alloc (.cells #[.string ⟨#[43]⟩, .string ⟨#[45]⟩, .string ⟨#[42]⟩, .string ⟨#[47]⟩, .string ⟨#[37]⟩, .string ⟨#[61]⟩, .string ⟨#[33, 61]⟩, .string ⟨#[60]⟩, .string ⟨#[60, 61]⟩, .string ⟨#[38]⟩, .string ⟨#[124]⟩] 9) = wL := ⟨_, rfl⟩
  rw [hwL] at hbL hcL hlL
  have hbT := below_to hbX hbL
  have HX := Lib.hid (hX1.later hbL)
  have HA := Lib.hid (hA.later hbT)
  have HB := Lib.hid (hB.later hbT)
  have HCA := Lib.hid cA
  have HCB := Lib.hid cB
  have HT := Lib.hid hbT
  have q5 : (op == 5) = false := by rw [beq_eq_false_iff_ne]; omega
  have q6 : (op == 6) = false := by rw [beq_eq_false_iff_ne]; omega
  have q1 : (op == 1) = false := by rw [beq_eq_false_iff_ne]; omega
  have q2 : (op == 2) = false := by rw [beq_eq_false_iff_ne]; omega
  have q3 : (op == 3) = false := by rw [beq_eq_false_iff_ne]; omega
  have q4 : (op == 4) = false := by rw [beq_eq_false_iff_ne]; omega
  have q7 : (7 : Int) ≤ op := by omega
  have q8 : op ≤ (17 : Int) := by omega
  have hw7 : IntKind.i64.wrap (op - 7) = (k : Int) := by rw [show op - 7 = (k : Int) by omega]; exact IntWalk.i64_in _ (by omega)
  have hk0 : (0 : Int) ≤ (k : Int) := by omega
  have hk11z : (k : Int) < 11 := by omega
  have hsza : (⟨(textE a).toArray⟩ : ByteArray).size ≤ 100000000 := by simpa [ByteArray.size] using hla
  have hszb : (⟨(textE b).toArray⟩ : ByteArray).size ≤ 100000000 := by simpa [ByteArray.size] using hlb
  have hszs : (⟨(signL op).toArray⟩ : ByteArray).size ≤ 2 := by simpa [ByteArray.size] using hsf
  have HFIN : Hid ((⟨(40 :: (textE a ++ 32 :: (signL op ++ 32 :: (textE b ++ [41])))).toArray⟩ : ByteArray) = ((((((⟨#[40]⟩ ++ ⟨(textE a).toArray⟩ : ByteArray) ++ ⟨#[32]⟩) ++ ⟨(signL op).toArray⟩) ++ ⟨#[32]⟩) ++ ⟨(textE b).toArray⟩) ++ ⟨#[41]⟩)) := Lib.hid (by apply ByteArray.ext; simp)
  obtain ⟨-, x0, x1, x2, x3, -⟩ := hX
  unfold RT at HCA HCB
  rw [HFIN.out]
  clear hA hB cA cB hX1 hbX hbL hbT hown hla hlb hsf hk
  generalize a.op = aop at *
  generalize a.num = an at *
  generalize (⟨a.str.toArray⟩ : ByteArray) = astr at *
  generalize a.kids.length = al at *
  generalize b.op = bop at *
  generalize b.num = bn at *
  generalize (⟨b.str.toArray⟩ : ByteArray) = bstr at *
  generalize b.kids.length = bl at *
  generalize (⟨(textE a).toArray⟩ : ByteArray) = TA at *
  generalize (⟨(textE b).toArray⟩ : ByteArray) = TB at *
  generalize (⟨(signL op).toArray⟩ : ByteArray) = SG at *
  clear HFIN
  have n5 : ¬ 9223372036854775807 < 1 + TA.size := by omega
  have n6 : ¬ 9223372036854775807 < 1 + TA.size + 1 := by omega
  have n7 : ¬ 9223372036854775807 < 1 + TA.size + 1 + SG.size := by omega
  have n8 : ¬ 9223372036854775807 < 1 + TA.size + 1 + SG.size + 1 := by omega
  have n9 : ¬ 9223372036854775807 < 1 + TA.size + 1 + SG.size + 1 + TB.size := by omega
  have n10 : ¬ 9223372036854775807 < 1 + TA.size + 1 + SG.size + 1 + TB.size + 1 := by omega
  go_enter Tryz.func11, Tryz.ntmps11
  go_wp2_with fail
  refine wp_region_held_drew (S := fun w' => Below wL.heap.size wL w') (by kernel_rfl) ((Below.refl _ _).drew) (fun hHeld => ?_)
  refine held_take (i := 0) (v := ?_) rfl (by kernel_rfl) (by kernel_rfl) (by kernel_rfl) (fun _ _ _ h => h) (by rfl) hHeld ?_ ?_
  rotate_left
  · intro wz hSz; go_simp; try with_reducible rfl
  simp only [Act.put, List.setIfInBounds_toArray, List.set_cons_zero, List.set_cons_succ]
  refine held_take (i := 1) (v := ?_) rfl (by kernel_rfl) (by kernel_rfl) (by kernel_rfl) (fun _ _ _ h => h) (by rfl) hHeld ?_ ?_
  rotate_left
  · intro wz hSz; obtain ⟨-, y0, y1, y2, y3, -⟩ := HX.out.later hSz; go_simp; try with_reducible rfl
  simp only [Act.put, List.setIfInBounds_toArray, List.set_cons_zero, List.set_cons_succ]
  refine held_take (i := 2) (v := ?_) rfl (by kernel_rfl) (by kernel_rfl) (by kernel_rfl) (fun _ _ _ h => h) (by rfl) hHeld ?_ ?_
  rotate_left
  · intro wz hSz; go_simp; try with_reducible rfl
  simp only [Act.put, List.setIfInBounds_toArray, List.set_cons_zero, List.set_cons_succ]
  refine held_take (i := 3) (v := ?_) rfl (by kernel_rfl) (by kernel_rfl) (by kernel_rfl) (fun _ _ _ h => h) (by rfl) hHeld ?_ ?_
  rotate_left
  · intro wz hSz; obtain ⟨-, y0, y1, y2, y3⟩ := HA.out.later hSz; go_simp; try with_reducible rfl
  simp only [Act.put, List.setIfInBounds_toArray, List.set_cons_zero, List.set_cons_succ]
  refine held_take (i := 7) (v := ?_) rfl (by kernel_rfl) (by kernel_rfl) (by kernel_rfl) (fun _ _ _ h => h) (by rfl) hHeld ?_ ?_
  rotate_left
  · intro wz hSz; go_simp; try with_reducible rfl
  simp only [Act.put, List.setIfInBounds_toArray, List.set_cons_zero, List.set_cons_succ]
  refine held_take (i := 8) (v := ?_) rfl (by kernel_rfl) (by kernel_rfl) (by kernel_rfl) (fun _ _ _ h => h) (by rfl) hHeld ?_ ?_
  rotate_left
  · intro wz hSz; go_simp; try with_reducible rfl
  simp only [Act.put, List.setIfInBounds_toArray, List.set_cons_zero, List.set_cons_succ]
  refine held_take (i := 9) (v := ?_) rfl (by kernel_rfl) (by kernel_rfl) (by kernel_rfl) (fun _ _ _ h => h) (by rfl) hHeld ?_ ?_
  rotate_left
  · intro wz hSz; obtain ⟨-, y0, y1, y2, y3, -⟩ := HX.out.later hSz; go_simp; try with_reducible rfl
  simp only [Act.put, List.setIfInBounds_toArray, List.set_cons_zero, List.set_cons_succ]
  refine held_take (i := 10) (v := ?_) rfl (by kernel_rfl) (by kernel_rfl) (by kernel_rfl) (fun _ _ _ h => h) (by rfl) hHeld ?_ ?_
  rotate_left
  · intro wz hSz; go_simp; try with_reducible rfl
  simp only [Act.put, List.setIfInBounds_toArray, List.set_cons_zero, List.set_cons_succ]
  refine held_take (i := 11) (v := ?_) rfl (by kernel_rfl) (by kernel_rfl) (by kernel_rfl) (fun _ _ _ h => h) (by rfl) hHeld ?_ ?_
  rotate_left
  · intro wz hSz; go_simp; try with_reducible rfl
  simp only [Act.put, List.setIfInBounds_toArray, List.set_cons_zero, List.set_cons_succ]
  refine held_take (i := 12) (v := ?_) rfl (by kernel_rfl) (by kernel_rfl) (by kernel_rfl) (fun _ _ _ h => h) (by rfl) hHeld ?_ ?_
  rotate_left
  · intro wz hSz; have y0 := (hSz.cell (p := ⟨wX.heap.size, k, none⟩) hlL).trans hcL; go_simp; try with_reducible rfl
  simp only [Act.put, List.setIfInBounds_toArray, List.set_cons_zero, List.set_cons_succ]
  refine held_take (i := 15) (v := ?_) rfl (by kernel_rfl) (by kernel_rfl) (by kernel_rfl) (fun _ _ _ h => h) (by rfl) hHeld ?_ ?_
  rotate_left
  · intro wz hSz; go_simp; try with_reducible rfl
  simp only [Act.put, List.setIfInBounds_toArray, List.set_cons_zero, List.set_cons_succ]
  refine held_take (i := 16) (v := ?_) rfl (by kernel_rfl) (by kernel_rfl) (by kernel_rfl) (fun _ _ _ h => h) (by rfl) hHeld ?_ ?_
  rotate_left
  · intro wz hSz; obtain ⟨-, y0, y1, y2, y3, -⟩ := HX.out.later hSz; go_simp; try with_reducible rfl
  simp only [Act.put, List.setIfInBounds_toArray, List.set_cons_zero, List.set_cons_succ]
  refine held_take (i := 17) (v := ?_) rfl (by kernel_rfl) (by kernel_rfl) (by kernel_rfl) (fun _ _ _ h => h) (by rfl) hHeld ?_ ?_
  rotate_left
  · intro wz hSz; go_simp; try with_reducible rfl
  simp only [Act.put, List.setIfInBounds_toArray, List.set_cons_zero, List.set_cons_succ]
  refine held_take (i := 18) (v := ?_) rfl (by kernel_rfl) (by kernel_rfl) (by kernel_rfl) (fun _ _ _ h => h) (by rfl) hHeld ?_ ?_
  rotate_left
  · intro wz hSz; obtain ⟨-, y0, y1, y2, y3⟩ := HB.out.later hSz; go_simp; try with_reducible rfl
  simp only [Act.put, List.setIfInBounds_toArray, List.set_cons_zero, List.set_cons_succ]
  refine held_call (i := 4) (by kernel_rfl) rfl (by rfl) (by go_simp; try with_reducible rfl) (HCA.out _ (below_to HT.out hHeld)) ?_
  rintro e wy ⟨rfl, hy⟩
  refine ⟨_, rfl, below_to hHeld hy, ?_⟩
  replace hHeld := below_to hHeld hy
  simp only [Act.put, List.setIfInBounds_toArray, List.set_cons_zero, List.set_cons_succ]
  refine held_take (i := 5) (v := ?_) rfl (by kernel_rfl) (by kernel_rfl) (by kernel_rfl) (fun _ _ _ h => h) (by rfl) hHeld ?_ ?_
  rotate_left
  · intro wz hSz; go_simp; try with_reducible rfl
  simp only [Act.put, List.setIfInBounds_toArray, List.set_cons_zero, List.set_cons_succ]
  refine held_take (i := 6) (v := ?_) rfl (by kernel_rfl) (by kernel_rfl) (by kernel_rfl) (fun _ _ _ h => h) (by rfl) hHeld ?_ ?_
  rotate_left
  · intro wz hSz; go_simp; try with_reducible rfl
  simp only [Act.put, List.setIfInBounds_toArray, List.set_cons_zero, List.set_cons_succ]
  refine held_take (i := 13) (v := ?_) rfl (by kernel_rfl) (by kernel_rfl) (by kernel_rfl) (fun _ _ _ h => h) (by rfl) hHeld ?_ ?_
  rotate_left
  · intro wz hSz; go_simp; try with_reducible rfl
  simp only [Act.put, List.setIfInBounds_toArray, List.set_cons_zero, List.set_cons_succ]
  refine held_take (i := 14) (v := ?_) rfl (by kernel_rfl) (by kernel_rfl) (by kernel_rfl) (fun _ _ _ h => h) (by rfl) hHeld ?_ ?_
  rotate_left
  · intro wz hSz; go_simp; try with_reducible rfl
  simp only [Act.put, List.setIfInBounds_toArray, List.set_cons_zero, List.set_cons_succ]
  refine held_call (i := 19) (by kernel_rfl) rfl (by rfl) (by go_simp; try with_reducible rfl) (HCB.out _ (below_to HT.out hHeld)) ?_
  rintro e wy ⟨rfl, hy⟩
  refine ⟨_, rfl, below_to hHeld hy, ?_⟩
  replace hHeld := below_to hHeld hy
  simp only [Act.put, List.setIfInBounds_toArray, List.set_cons_zero, List.set_cons_succ]
  refine held_take (i := 20) (v := ?_) rfl (by kernel_rfl) (by kernel_rfl) (by kernel_rfl) (fun _ _ _ h => h) (by rfl) hHeld ?_ ?_
  rotate_left
  · intro wz hSz; go_simp; try with_reducible rfl
  simp only [Act.put, List.setIfInBounds_toArray, List.set_cons_zero, List.set_cons_succ]
  refine held_take (i := 21) (v := ?_) rfl (by kernel_rfl) (by kernel_rfl) (by kernel_rfl) (fun _ _ _ h => h) (by rfl) hHeld ?_ ?_
  rotate_left
  · intro wz hSz; go_simp; try with_reducible rfl
  simp only [Act.put, List.setIfInBounds_toArray, List.set_cons_zero, List.set_cons_succ]
  refine held_take (i := 22) (v := ?_) rfl (by kernel_rfl) (by kernel_rfl) (by kernel_rfl) (fun _ _ _ h => h) (by rfl) hHeld ?_ ?_
  rotate_left
  · intro wz hSz; go_simp; try with_reducible rfl
  simp only [Act.put, List.setIfInBounds_toArray, List.set_cons_zero, List.set_cons_succ]
  refine wpAnyH_done (by kernel_rfl) ?_ _
  have HE := Lib.hid (below_to HT.out hHeld)
  go_wp2_with fail
  exact bodyPost_ret (v := .string (((((((⟨#[40]⟩ ++ TA : ByteArray) ++ ⟨#[32]⟩) ++ SG) ++ ⟨#[32]⟩) ++ TB) ++ ⟨#[41]⟩))) (by simp [results, Tryz.results11, go_sem]) rfl ⟨rfl, HE.out⟩
end Go.Proofs.YtbbblmedoagncaaGreatDoor
