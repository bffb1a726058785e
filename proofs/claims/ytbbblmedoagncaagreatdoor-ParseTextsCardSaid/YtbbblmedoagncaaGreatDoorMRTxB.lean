/- palaverref07.Text: calls; any expression. -/
import Derived.Test.YtbbblmedoagncaaGreatDoorMRTx
namespace Go.Proofs.YtbbblmedoagncaaGreatDoor
open Go.RowKit

def words6 : Array Value := #[.string ⟨#[105, 102]⟩, .string ⟨#[108, 101, 110]⟩, .string ⟨#[99, 97, 116]⟩, .string ⟨#[99, 117, 116]⟩, .string ⟨#[104, 97, 115]⟩, .string ⟨#[117, 112]⟩]
theorem words_at : ∀ k : Fin 6, words6[k.val]? = some (.string ⟨(wordL ((18 + k.val : Nat) : Int)).toArray⟩)
  | ⟨0, _⟩ => by kernel_rfl
  | ⟨1, _⟩ => by kernel_rfl
  | ⟨2, _⟩ => by kernel_rfl
  | ⟨3, _⟩ => by kernel_rfl
  | ⟨4, _⟩ => by kernel_rfl
  | ⟨5, _⟩ => by kernel_rfl
  | ⟨k + 6, h⟩ => absurd h (by omega)
theorem word_few : ∀ k : Fin 6, (wordL ((18 + k.val : Nat) : Int)).length ≤ 3 := by decide +kernel
theorem commaL_snoc (a : List UInt8) : ∀ l : List (List UInt8), commaL (l ++ [a]) = if l = [] then a else commaL l ++ 44 :: 32 :: a
  | [] => by simp [commaL]
  | [x] => by simp [commaL]
  | x :: y :: l => by
    have h := commaL_snoc a (y :: l)
    rw [if_neg (by simp)] at h
    rw [if_neg (by simp), List.cons_append, List.cons_append, commaL, commaL, ← List.cons_append, h]
    simp
/-- The text so far. -/
def soFar (op : Int) (ks : List Ex) (j : Nat) : List UInt8 := wordL op ++ 40 :: commaL (textsL (ks.take j))
theorem soFar_next {op : Int} {ks : List Ex} {j : Nat} (h : j < ks.length) : soFar op ks (j + 1) = soFar op ks j ++ (if j = 0 then [] else [44, 32]) ++ textE ks[j] := by
  unfold soFar
  rw [textsL_at h, commaL_snoc]
  cases j with
  | zero => simp [textsL, commaL]
  | succ j =>
    have : textsL (ks.take (j + 1)) ≠ [] := by
      intro e
      have := congrArg List.length e
      rw [textsL_len, List.length_take, List.length_nil] at this
      omega
    rw [if_neg this, if_neg (by omega)]
    simp
set_option maxHeartbeats 8000000 in
set_option maxRecDepth 100000 in
theorem rtext_call (op n : Int) (k : Nat) (hk : op = ((18 + k : Nat) : Int)) (hk6 : k < 6) (s : ByteArray) (ao : Option Addr) (cap : Nat) (ks : List Ex) (S : Nat → Prop) (w : World) (h0 : 0 < ks.length) (h3 : ks.length ≤ 3) (_hcap : ks.length ≤ cap)
    (hr : ∃ g o, ao = some ⟨g, o, none⟩ ∧ S g ∧ g < w.heap.size ∧ RowIn w S g o ks) (hlen : ∀ e ∈ ks, (textE e).length ≤ 100000000)
    (cK : ∀ (i : Nat) e, ks[i]? = some e → ∀ (ao : Option Addr) (c : Nat) (w' : World), Below w.heap.size w w' → ExIn w' S e (EV e.op e.num ⟨e.str.toArray⟩ (.slice ao e.kids.length c)) → Calls Tryz.prog 11 #[EV e.op e.num ⟨e.str.toArray⟩ (.slice ao e.kids.length c)] w' (RT e w')) :
    Calls Tryz.prog 11 #[EV op n s (.slice ao ks.length cap)] w fun en w' => en = .returned (.string ⟨(wordL op ++ 40 :: (commaL (textsL ks) ++ [41])).toArray⟩) ∧ Below w.heap.size w w' := by
  obtain ⟨g, o, rfl, hS, hg, hrow⟩ := hr
  have hX := four_new w (.int .i64 op) (.int .i64 n) (.string s) (.slice (some ⟨g, o, none⟩) ks.length cap) 24
  have hbX := below_alloc w (.cells #[.int .i64 op, .int .i64 n, .string s, .slice (some ⟨g, o, none⟩) ks.length cap] 24)
  obtain ⟨wX, hwX⟩ : ∃ wX, w.alloc (.cells #[.int .i64 op, .int .i64 n, .string s, .slice (some ⟨g, o, none⟩) ks.length cap] 24) = wX := ⟨_, rfl⟩
  rw [hwX] at hX hbX
  have hbL := below_alloc wX (.cells words6 9)
  have hcL := (cells_of_alloc wX words6 9 k).trans (words_at ⟨k, hk6⟩)
  have hsf := word_few ⟨k, hk6⟩
  dsimp only at hcL hsf
  rw [← hk] at hcL hsf
  have hX1 := hX
  unfold words6 at hbL hcL
  obtain ⟨wL, hwL⟩ : ∃ wL, wX.alloc (.cells #[.string ⟨#[105, 102]⟩, .string ⟨#[108, 101, 110]⟩, .string ⟨#[99, 97, 116]⟩, .string ⟨#[99, 117, 116]⟩, .string ⟨#[104, 97, 115]⟩, .string ⟨#[117, 112]⟩] 9) = wL := ⟨_, rfl⟩
  rw [hwL] at hbL hcL
  have hbT := below_to hbX hbL
  have HX := Lib.hid (hX1.later hbL)
  obtain ⟨-, z0, z1, z2, z3, -⟩ := HX.out
  have HT := Lib.hid hbT
  have HK := Lib.hid cK
  have HR := Lib.hid hrow
  have HLN := Lib.hid hlen
  have q5 : (op == 5) = false := by rw [beq_eq_false_iff_ne]; omega
  have q6 : (op == 6) = false := by rw [beq_eq_false_iff_ne]; omega
  have q1 : (op == 1) = false := by rw [beq_eq_false_iff_ne]; omega
  have q2 : (op == 2) = false := by rw [beq_eq_false_iff_ne]; omega
  have q3 : (op == 3) = false := by rw [beq_eq_false_iff_ne]; omega
  have q4 : (op == 4) = false := by rw [beq_eq_false_iff_ne]; omega
  have q7 : (7 : Int) ≤ op := by omega
  have q8 : ¬ op ≤ (17 : Int) := by omega
  have hw7 : IntKind.i64.wrap (op - 18) = (k : Int) := by rw [show op - 18 = (k : Int) by omega]; exact IntWalk.i64_in _ (by omega)
  have hw8 : op - 18 = (k : Int) := by omega
  have hk0 : (0 : Int) ≤ (k : Int) := by omega
  have hk6z : (k : Int) < 6 := by omega
  have hszs : (⟨(wordL op).toArray⟩ : ByteArray).size ≤ 3 := by simpa [ByteArray.size] using hsf
  have HSF : Hid ((⟨(wordL op).toArray⟩ : ByteArray) ++ (⟨#[40]⟩ : ByteArray) = ⟨(soFar op ks 0).toArray⟩) := Lib.hid (by unfold soFar; apply ByteArray.ext; simp [textsL, commaL])
  have HSL : Hid ((soFar op ks 0).length ≤ 4) := Lib.hid (by unfold soFar; simp [textsL, commaL]; omega)
  obtain ⟨-, x0, x1, x2, x3, -⟩ := hX
  clear hX1 hbX hbL hbT hrow hlen cK hsf hk hw8
  generalize (⟨(wordL op).toArray⟩ : ByteArray) = WD at *
  go_enter Tryz.func11, Tryz.ntmps11
  go_wp2_with fail
  rw [HSF.out]
  go_loopg [5, 6] (ks.length) (fun a s5 s6 wr => ∃ j : Nat, j + a = ks.length ∧ s5 = .string ⟨(soFar op ks j).toArray⟩ ∧ s6 = .int .i64 (j : Int) ∧ Hid ((soFar op ks j).length ≤ 4 + j * 100000002) ∧ Hid (Below wL.heap.size wL wr))
  case atStart => exact ⟨0, by omega, rfl, rfl, Lib.hid (by have := HSL.out; omega), Lib.hid (Below.refl _ _)⟩
  case round =>
    obtain ⟨j, hja, rfl, rfl, HSZ, HW⟩ := hrel
    have HJ := Lib.hid hja
    obtain ⟨-, y0, y1, y2, y3, -⟩ := HX.out.later HW.out
    clear x0 x1 x2 x3 z0 z1 z2 z3 hcL
    have hss : (⟨(soFar op ks j).toArray⟩ : ByteArray).size ≤ 400000010 := by
      have e : (⟨(soFar op ks j).toArray⟩ : ByteArray).size = (soFar op ks j).length := by simp [ByteArray.size]
      have := HSZ.out
      omega
    have hss2 : (soFar op ks j).length ≤ 400000010 := by have := HSZ.out; omega
    by_cases hjk : j < ks.length
    · have hjz : (j : Int) < (ks.length : Int) := by omega
      have hx : ks[j]? = some ks[j] := List.getElem?_eq_getElem hjk
      have hBT := below_to HT.out HW.out
      have hrow2 := RowIn.stays (.of hBT) ks g o hS hg HR.out
      obtain ⟨ao2, cap2, hK4, he⟩ := kid_at (Nat.lt_of_lt_of_le hg hBT.size) hrow2 hx
      have hlt := HLN.out ks[j] (List.getElem_mem hjk)
      have c := HK.out j ks[j] hx ao2 cap2 wr hBT he
      have HN := Lib.hid (soFar_next (op := op) hjk)
      have hsza : (⟨(textE ks[j]).toArray⟩ : ByteArray).size ≤ 100000000 := by simpa [ByteArray.size] using hlt
      have HLT := Lib.hid hlt
      have hsza2 : (textE ks[j]).length ≤ 100000000 := hlt
      obtain ⟨hgl, k0, k1, k2, k3⟩ := hK4
      unfold RT at c
      clear he hrow2 hx hBT hlt hja
      generalize ks[j] = kd at *
      generalize kd.op = kop at *
      generalize kd.num = kn at *
      generalize (⟨kd.str.toArray⟩ : ByteArray) = kstr at *
      generalize kd.kids.length = kl at *
      by_cases hj0 : j = 0
      · subst hj0
        rw [Nat.zero_mul, Nat.add_zero] at k0 k1 k2 k3
        have HNX : Hid ((⟨(soFar op ks 0).toArray⟩ : ByteArray) ++ (⟨(textE kd).toArray⟩ : ByteArray) = ⟨(soFar op ks (0 + 1)).toArray⟩) := Lib.hid (by rw [HN.out]; apply ByteArray.ext; simp)
        have HNL : Hid ((soFar op ks (0 + 1)).length ≤ 4 + (0 + 1) * 100000002) := Lib.hid (by rw [HN.out, if_pos rfl]; simp only [List.length_append, List.length_nil]; have := HSZ.out; have := HLT.out; omega)
        go_wp2_with fail
        refine c.mono ?_
        rintro en w2 ⟨rfl, b2⟩
        have HW2 := Lib.hid (below_to HW.out b2)
        clear b2 c
        go_wp2_with fail
        rw [HNX.out]
        go_roundg (ks.length - (0 + 1))
        case measure => have := HJ.out; omega
        case rel => exact ⟨0 + 1, by have := HJ.out; omega, rfl, by go_num, HNL, HW2⟩
      · have hj1 : (0 : Int) < (j : Int) := by omega
        have HNX : Hid ((⟨(soFar op ks j).toArray⟩ : ByteArray) ++ (⟨#[44, 32]⟩ : ByteArray) ++ (⟨(textE kd).toArray⟩ : ByteArray) = ⟨(soFar op ks (j + 1)).toArray⟩) := Lib.hid (by rw [HN.out, if_neg hj0]; apply ByteArray.ext; simp)
        have HNL : Hid ((soFar op ks (j + 1)).length ≤ 4 + (j + 1) * 100000002) := Lib.hid (by rw [HN.out, if_neg hj0]; simp only [List.length_append, List.length_cons, List.length_nil]; have := HSZ.out; have := HLT.out; omega)
        go_wp2_with fail
        refine c.mono ?_
        rintro en w2 ⟨rfl, b2⟩
        have HW2 := Lib.hid (below_to HW.out b2)
        clear b2 c
        go_wp2_with fail
        rw [HNX.out]
        go_roundg (ks.length - (j + 1))
        case measure => have := HJ.out; omega
        case rel => exact ⟨j + 1, by have := HJ.out; omega, rfl, by go_num, HNL, HW2⟩
    · have hjz : ¬ (j : Int) < (ks.length : Int) := by omega
      obtain rfl : j = ks.length := by omega
      have HEND : Hid ((⟨(soFar op ks ks.length).toArray⟩ : ByteArray) ++ (⟨#[41]⟩ : ByteArray) = ⟨(wordL op ++ 40 :: (commaL (textsL ks) ++ [41])).toArray⟩) := Lib.hid (by unfold soFar; rw [List.take_length]; apply ByteArray.ext; simp)
      have HB := Lib.hid (below_to HT.out HW.out)
      clear hja
      go_wp2_with fail
      exact bodyPost_ret (v := .string ((⟨(soFar op ks ks.length).toArray⟩ : ByteArray) ++ (⟨#[41]⟩ : ByteArray))) (by simp [results, Tryz.results11, go_sem]) rfl ⟨by rw [HEND.out], HB.out⟩
set_option maxHeartbeats 1000000 in
theorem rtext_all : ∀ (F : Nat) (e : Ex), nodes e ≤ F → nodes e ≤ 100000 → ∀ (v : Value) (S : Nat → Prop) (w : World), ExIn w S e v → allB e = true →
    Calls Tryz.prog 11 #[v] w (RT e w)
  | 0, e, hF, _, _, _, _, _, _ => absurd hF (by have := nodes_pos e; omega)
  | F + 1, .mk op n s ks, hF, hN, v, S, w, hv, ha => by
    have IH := rtext_all F
    have hfit := hv.fit
    obtain ⟨har, hp, hh⟩ := part_arity (all_part ha)
    by_cases hop : 1 ≤ op ∧ op ≤ 4
    · have h0 : ks.length = 0 := by have := arity_in har; omega
      obtain rfl := List.length_eq_zero_iff.1 h0
      exact rtext_leaf op n s v S w hv ha hop
    obtain ⟨h523, k1, k3⟩ := arity_three har hop
    have hkl : allBL ks = true := by rw [allB] at ha; simp only [Bool.and_eq_true] at ha; exact ha.2
    rw [fitE] at hfit
    have hnl : nodesL ks + 1 ≤ 100000 := by rw [nodes] at hN; omega
    have hnF : nodesL ks ≤ F := by rw [nodes] at hF; omega
    have hte : textE (.mk op n s ks) = ownL op (textsL ks) := by
      rw [textE, if_neg (by omega), if_neg (by omega), if_neg (by omega), if_neg (by omega)]
    obtain ⟨ao, cap, rfl, h2, h3, hr, hk⟩ := hv.get
    unfold Ex.op Ex.num Ex.str Ex.kids at *
    dsimp only at *
    obtain ⟨g, o, rfl, hS, hg, hrow⟩ := hk k1
    have hlen : ∀ e ∈ ks, (textE e).length ≤ 100000000 := fun e he => by
      obtain ⟨i, hi⟩ := List.mem_iff_getElem?.1 he
      obtain ⟨v0, v1, v2, v3, c0, c1, c2, c3, hx⟩ := hrow.at hi
      have := textE_len e (all_kid hkl he) hx.fit
      have := nodes_kid he
      omega
    have cK : ∀ (i : Nat) e, ks[i]? = some e → ∀ (ao : Option Addr) (c : Nat) (w' : World), Below w.heap.size w w' → ExIn w' S e (EV e.op e.num ⟨e.str.toArray⟩ (.slice ao e.kids.length c)) → Calls Tryz.prog 11 #[EV e.op e.num ⟨e.str.toArray⟩ (.slice ao e.kids.length c)] w' (RT e w') := fun i e hi ao c w' _ hx => by
      have he := List.mem_of_getElem? hi
      have := nodes_kid he
      exact IH e (by omega) (by omega) _ S w' hx (all_kid hkl he)
    unfold RT
    rw [hte]
    by_cases h56 : op = 5 ∨ op = 6
    · have hl1 : ks.length = 1 := by have := arity_in har; omega
      obtain ⟨x, rfl⟩ := List.length_eq_one_iff.1 hl1
      obtain ⟨xo, xc, hx4, hx⟩ := kid_at (i := 0) hg hrow rfl
      exact rtext_one op n _ g o cap x xo xc w h56 hx4 (hlen x (by simp)) fun w' hb => cK 0 x rfl xo xc w' hb (hx.later hb)
    by_cases h17 : op ≤ 17
    · have hl2 : ks.length = 2 := by have := arity_in har; omega
      obtain ⟨x, y, rfl⟩ : ∃ x y, ks = [x, y] := by
        match ks, hl2 with
        | [x, y], _ => exact ⟨x, y, rfl⟩
      obtain ⟨xo, xc, hx4, hx⟩ := kid_at (i := 0) hg hrow rfl
      obtain ⟨yo, yc, hy4, hy⟩ := kid_at (i := 1) hg hrow rfl
      exact rtext_two op n (op - 7).toNat (by omega) (by omega) _ g o cap x y xo yo xc yc w hx4 hy4 (hlen x (by simp)) (hlen y (by simp)) (fun w' hb => cK 0 x rfl xo xc w' hb (hx.later hb)) (fun w' hb => cK 1 y rfl yo yc w' hb (hy.later hb))
    · rw [show ownL op (textsL ks) = wordL op ++ 40 :: (commaL (textsL ks) ++ [41]) by unfold ownL; rw [if_neg (by omega), if_neg (by omega), if_neg (by omega)]]
      exact rtext_call op n (op - 18).toNat (by omega) (by omega) _ _ cap ks S w k1 k3 h2 ⟨g, o, rfl, hS, hg, hrow⟩ hlen cK
theorem rtext_any (e : Ex) (v : Value) (S : Nat → Prop) (w : World) (hv : ExIn w S e v) (hn : nodes e ≤ 100000) (ha : allB e = true) : Calls Tryz.prog 11 #[v] w (RT e w) :=
  rtext_all (nodes e) e (Nat.le_refl _) hn v S w hv ha
end Go.Proofs.YtbbblmedoagncaaGreatDoor
