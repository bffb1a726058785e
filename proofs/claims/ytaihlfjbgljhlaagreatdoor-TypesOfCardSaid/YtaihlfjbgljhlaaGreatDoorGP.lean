/- Several texts in one: ParXT, ParTx, ParText. -/
import Derived.Test.YtaihlfjbgljhlaaGreatDoorGG
import Derived.Test.YtaihlfjbgljhlaaGreatDoorGI
import Derived.Test.YtaihlfjbgljhlaaGreatDoorGH
import Derived.Test.YtaihlfjbgljhlaaGreatDoorGO
import Derived.Test.YtaihlfjbgljhlaaGreatDoorGB
import Derived.Test.YtaihlfjbgljhlaaGreatDoorMLexRL
import Derived.Test.YtaihlfjbgljhlaaGreatDoorGJ
import Derived.Lib.TrimUEq
import Derived.Lib.SpaceUEq
import Derived.Lib.ItoaLen
import Derived.Lib.Join
import Derived.Shelf.Strconv.Itoa4
import Derived.Lib.AppendIntMem
import Derived.Shelf.Small.Strs
import Derived.Shelf.Small.Wraps
import Derived.Shelf.Strings.OnBuilder
import Derived.Deep.LoopGhost
namespace Go.Proofs.YtaihlfjbgljhlaaGreatDoor
/- Plain mathematics: how long an expression's text is; how an operation with kids is written. -/
section
open Go.Lib

theorem len_count (l : List UInt8) : l.length ≤ 4 * countL l := by
  refine pcs_induct (Q := fun l => l.length ≤ 4 * countL l) (by simp) ?_ l
  intro l hne ih
  have h4 := decodeL_four l
  have : countL l = countL (l.drop (decodeL l).2) + 1 := by unfold countL; rw [pcs_step l hne]; simp
  rw [List.length_drop] at ih
  omega
theorem quote_len (l : List UInt8) : (quoteL l).length ≤ 6 * countL l + 2 := by
  unfold quoteL
  rw [List.length_cons, List.length_append, List.length_singleton]
  have : (quoteM l).length ≤ 6 * countL l := by
    refine pcs_induct (Q := fun l => (quoteM l).length ≤ 6 * countL l) (by simp [quoteM_nil]) ?_ l
    intro l hne ih
    have h4 := quoteR_len6 (decodeL l).1
    have : countL l = countL (l.drop (decodeL l).2) + 1 := by unfold countL; rw [pcs_step l hne]; simp
    rw [quoteM_step l hne, List.length_append]
    omega
  omega
/-- The line of an operation, its sign or word. -/
theorem form_ahead {op : Int} (h : op = 5 ∨ op = 6) : ∃ c : UInt8, formOfL op = (op, [c], 1, 6) ∧ ∀ ts, ownL op ts = c :: headL ts := by
  rcases h with rfl | rfl
  · exact ⟨45, rfl, fun _ => rfl⟩
  · exact ⟨33, rfl, fun _ => rfl⟩
theorem form_two {op : Int} (h : 7 ≤ op ∧ op ≤ 17) : ∃ l : Int, formOfL op = (op, signL op, 2, l) ∧ (¬ l = 0) ∧ (¬ l = 6) ∧ (signL op).length ≤ 2 ∧ ∀ ts, ownL op ts = 40 :: (headL ts ++ 32 :: (signL op ++ 32 :: (headL ts.tail ++ [41]))) := by
  have : op = 7 ∨ op = 8 ∨ op = 9 ∨ op = 10 ∨ op = 11 ∨ op = 12 ∨ op = 13 ∨ op = 14 ∨ op = 15 ∨ op = 16 ∨ op = 17 := by omega
  rcases this with rfl | rfl | rfl | rfl | rfl | rfl | rfl | rfl | rfl | rfl | rfl
  all_goals exact ⟨_, rfl, by decide, by decide, by decide, fun _ => rfl⟩
theorem form_call {op : Int} (h : 18 ≤ op ∧ op ≤ 23) : ∃ k : Int, formOfL op = (op, wordL op, k, 0) ∧ (wordL op).length ≤ 3 ∧ ∀ ts, ownL op ts = wordL op ++ 40 :: (commaL ts ++ [41]) := by
  have : op = 18 ∨ op = 19 ∨ op = 20 ∨ op = 21 ∨ op = 22 ∨ op = 23 := by omega
  rcases this with rfl | rfl | rfl | rfl | rfl | rfl
  all_goals exact ⟨_, rfl, by decide, fun _ => rfl⟩
theorem commaL_join : ∀ ts : List (List UInt8), commaL ts = join ts [44, 32]
  | [] => rfl
  | [a] => by rw [join_one]; rfl
  | a :: b :: l => by
    rw [commaL, commaL_join (b :: l), join_cons, join_cons, joinTail, joinTail]
    simp
theorem twoL_join (a b c : List UInt8) : join [a, b] c = a ++ (c ++ b) := by
  rw [join_cons, joinTail]; simp
/-- The lengths of texts, one behind the other. -/
def lenS : List (List UInt8) → Nat
  | [] => 0
  | a :: l => a.length + lenS l
theorem headL_len : ∀ ts, (headL ts).length ≤ lenS ts
  | [] => by simp [headL]
  | a :: l => by simp [headL, lenS]
theorem commaL_len : ∀ ts, (commaL ts).length ≤ lenS ts + 2 * ts.length
  | [] => by simp [commaL]
  | [a] => by simp [commaL, lenS]
  | a :: b :: l => by
    have := commaL_len (b :: l)
    rw [commaL, List.length_append, List.length_cons, List.length_cons]
    simp only [lenS, List.length_cons] at *
    omega
theorem lenS_tail : ∀ ts, lenS (ts.tail) + (headL ts).length ≤ lenS ts
  | [] => by simp [lenS, headL]
  | a :: l => by simp [headL, lenS]; omega
theorem ownL_len {op : Int} {ts : List (List UInt8)} (h : 5 ≤ op ∧ op ≤ 23) (hk : ts.length ≤ 3) : (ownL op ts).length ≤ lenS ts + 20 := by
  by_cases h1 : op = 5 ∨ op = 6
  · obtain ⟨c, -, e⟩ := form_ahead h1
    rw [e, List.length_cons]
    have := headL_len ts
    omega
  by_cases h2 : op ≤ 17
  · obtain ⟨l, -, -, -, e2, e⟩ := form_two (op := op) (by omega)
    rw [e]
    simp only [List.length_cons, List.length_append, List.length_nil]
    have a := headL_len ts.tail
    have b := lenS_tail ts
    omega
  · obtain ⟨l, -, e2, e⟩ := form_call (op := op) (by omega)
    rw [e]
    simp only [List.length_cons, List.length_append, List.length_nil]
    have := commaL_len ts
    omega
theorem textsL_len : ∀ es, (textsL es).length = es.length
  | [] => rfl
  | e :: es => by rw [textsL, List.length_cons, List.length_cons, textsL_len es]
theorem arity_three {op : Int} {k : Nat} (h : arity op = some k) (hop : ¬ (1 ≤ op ∧ op ≤ 4)) : (5 ≤ op ∧ op ≤ 23) ∧ 1 ≤ k ∧ k ≤ 3 := by
  have := arity_in h
  omega
mutual
theorem textE_len : ∀ e : Ex, allB e = true → fitE e → (textE e).length ≤ 1000 * nodes e
  | .mk op n s ks, h, hf => by
    obtain ⟨ha, hp, hh⟩ := part_arity (all_part h)
    have hkl : allBL ks = true := by rw [allB] at h; simp only [Bool.and_eq_true] at h; exact h.2
    rw [fitE] at hf
    have ih := textsL_len2 ks hkl hf.2
    rw [textE, nodes]
    unfold plainB at hp
    split
    · next h1 =>
      rw [if_pos h1] at hp
      simp only [Bool.and_eq_true, decide_eq_true_eq] at hp
      have := itoa_length_le n (by omega) hf.1
      omega
    split
    · next h1 h2 =>
      rw [if_neg h1, if_pos h2] at hp
      unfold textB at hp
      simp only [Bool.and_eq_true, decide_eq_true_eq] at hp
      have := quote_len s
      omega
    split
    · split <;> simp [wTrue, wFalse] <;> omega
    split
    · next h1 h2 h3 h4 =>
      rw [if_neg h1, if_neg h2, if_neg h3, if_pos h4] at hp
      unfold nameB at hp
      simp only [Bool.and_eq_true, decide_eq_true_eq] at hp
      omega
    · next h1 h2 h3 h4 =>
      obtain ⟨a1, a2, a3⟩ := arity_three ha (by omega)
      have := ownL_len a1 (ts := textsL ks) (by rw [textsL_len]; exact a3)
      omega
theorem textsL_len2 : ∀ es : List Ex, allBL es = true → fitL es → lenS (textsL es) ≤ 1000 * nodesL es
  | [], _, _ => by simp [textsL, lenS]
  | e :: es, h, hf => by
    rw [allBL] at h
    simp only [Bool.and_eq_true] at h
    rw [fitL] at hf
    have a := textE_len e h.1 hf.1
    have b := textsL_len2 es h.2 hf.2
    rw [textsL, lenS, nodesL]
    omega
end
end
/- parse.text: an expression that may be, as a formula. -/
section
open Go.RowKit

theorem formatInt_any (n : Int) (h0 : -9223372036854775808 ≤ n) (h1 : n ≤ 9223372036854775807) (w : World) (hP : EnvP w) :
    Calls Tryz.prog 45 #[.int .i64 n, .int .i64 10] w fun e w' => e = .returned (.string ⟨(Lib.itoa n).toArray⟩) ∧ Below w.heap.size w w' :=
  (Any.strconv_FormatInt_10 Tryz.more173 n h0 h1 w hP.pow).mono fun _ _ ⟨he, _, _, hw⟩ => ⟨he, hw ▸ Lib.below_grow w.heap.size w (Nat.le_refl _) _ _⟩
theorem formatBool_any (b : Bool) (w : World) :
    Calls Tryz.prog 47 #[.bool b] w fun e w' => e = .returned (.string ⟨(Lib.formatBool b).toArray⟩) ∧ w' = w :=
  Any.strconv_FormatBool Tryz.more121 b w
mutual
theorem ExIn.fit {w : World} {S : Nat → Prop} : ∀ (e : Ex) (v : Value), ExIn w S e v → fitE e
  | .mk op n s ks, v, h => by
    rw [ExIn] at h
    obtain ⟨hr, ao, cap, h1, h2, h3, h4⟩ := h
    rw [fitE]
    refine ⟨hr.2.1.2, ?_⟩
    cases ks with
    | nil => rw [fitL]; trivial
    | cons k ks =>
      obtain ⟨g, o, -, -, -, hrow⟩ := h4 (by simp)
      exact RowIn.fit (k :: ks) g o hrow
theorem RowIn.fit {w : World} {S : Nat → Prop} : ∀ (es : List Ex) (g o : Nat), RowIn w S g o es → fitL es
  | [], _, _, _ => by rw [fitL]; trivial
  | e :: es, g, o, h => by
    rw [RowIn] at h
    obtain ⟨-, ⟨v0, v1, v2, v3, -, -, -, -, he⟩, hr⟩ := h
    rw [fitL]
    exact ⟨ExIn.fit e _ he, RowIn.fit es g (o + 4) hr⟩
end
/-- Texts, as they lie in a row. -/
def strV (t : List UInt8) : Value := .string ⟨t.toArray⟩
theorem one_news (w : World) (x : Value) (t : TypeId) : ∀ (j : Nat) (u : Value), [x][j]? = some u → (w.alloc (.cells #[x] t)).cell? ((⟨w.heap.size, 0, none⟩ : Addr).add j) = some u := by
  intro j u hj
  have e : (⟨w.heap.size, 0, none⟩ : Addr).add j = ⟨w.heap.size, j, none⟩ := by unfold Addr.add; split <;> simp_all
  rw [e, cells_of_alloc]
  simpa using hj
theorem str_cell (s : ByteArray) : ∀ u ∈ [Value.string s], u.oneCell' = true := by simp [Value.oneCell']
theorem all_kid {k : Ex} : ∀ {ks : List Ex}, allBL ks = true → k ∈ ks → allB k = true
  | x :: xs, ha, h => by
    rw [allBL] at ha
    simp only [Bool.and_eq_true] at ha
    rcases List.mem_cons.1 h with rfl | h
    · exact ha.1
    · exact all_kid ha.2 h
theorem textsL_take (ks : List Ex) : ∀ j, textsL (ks.take j) = (textsL ks).take j := by
  induction ks with
  | nil => intro j; simp [textsL]
  | cons k ks ih =>
    intro j
    cases j with
    | zero => simp [textsL]
    | succ j => rw [List.take_succ_cons, textsL, textsL, List.take_succ_cons, ih]
theorem textsL_at {ks : List Ex} {j : Nat} (h : j < ks.length) : textsL (ks.take (j + 1)) = textsL (ks.take j) ++ [textE ks[j]] := by
  induction ks generalizing j with
  | nil => simp at h
  | cons k ks ih =>
    cases j with
    | zero => simp [textsL]
    | succ j =>
      rw [List.take_succ_cons, List.take_succ_cons, textsL, textsL, ih (by simpa using h)]
      simp
section
set_option maxHeartbeats 2000000 in
set_option maxRecDepth 100000 in
theorem text_leaf (op n : Int) (s : List UInt8) (v : Value) (S : Nat → Prop) (w : World) (hv : ExIn w S (.mk op n s []) v) (hE : EnvP w) (ha : allB (.mk op n s []) = true) (hop : 1 ≤ op ∧ op ≤ 4) :
    Calls Tryz.prog 29 #[v] w fun en w' => en = .returned (.string ⟨(textE (.mk op n s [])).toArray⟩) ∧ Below w.heap.size w w' := by
  obtain ⟨ao, cap, rfl, h2, h3, hr, hk⟩ := hv.get
  have hfit := hv.fit
  obtain ⟨-, hp, -⟩ := part_arity (all_part ha)
  unfold Ex.op Ex.num Ex.str Ex.kids at *
  dsimp only at *
  simp only [List.length_nil] at *
  have hX := four_new w (.int .i64 op) (.int .i64 n) (.string ⟨s.toArray⟩) (.slice ao 0 cap) 24
  have hbX := below_alloc w (.cells #[.int .i64 op, .int .i64 n, .string ⟨s.toArray⟩, .slice ao 0 cap] 24)
  have hEX := hE.later hbX
  obtain ⟨wX, hwX⟩ : ∃ wX, w.alloc (.cells #[.int .i64 op, .int .i64 n, .string ⟨s.toArray⟩, .slice ao 0 cap] 24) = wX := ⟨_, rfl⟩
  rw [hwX] at hX hbX hEX
  obtain ⟨-, x0, x1, x2, x3, -⟩ := hX
  have : op = 1 ∨ op = 2 ∨ op = 3 ∨ op = 4 := by omega
  rcases this with rfl | rfl | rfl | rfl
  · have hI := hr.2.1
    have c := formatInt_any n hI.1 hI.2 wX hEX
    rw [show textE (.mk 1 n s []) = Lib.itoa n by rw [textE]; rfl]
    clear hk hv
    go_enter Tryz.func29, Tryz.ntmps29
    go_wp2_with fail
    refine c.mono ?_
    rintro e w1 ⟨rfl, b1⟩
    go_wp2_with fail
    exact bodyPost_ret (v := .string ⟨(Lib.itoa n).toArray⟩) (by simp [results, Tryz.results29, go_sem]) rfl ⟨rfl, below_to hbX b1⟩
  · have hl := len_count s
    have hcl : countL s ≤ 100 := by
      simp [plainB, textB] at hp
      exact hp.2.2
    have c := quote_any ⟨s.toArray⟩ wX (by have : (⟨s.toArray⟩ : ByteArray).size = s.length := by simp [ByteArray.size]
                                           omega)
    rw [show (⟨s.toArray⟩ : ByteArray).data.toList = s by simp] at c
    rw [show textE (.mk 2 n s []) = quoteL s by rw [textE]; rfl]
    clear hk hv
    go_enter Tryz.func29, Tryz.ntmps29
    go_wp2_with fail
    refine c.mono ?_
    rintro e w1 ⟨rfl, b1⟩
    go_wp2_with fail
    exact bodyPost_ret (v := .string ⟨(quoteL s).toArray⟩) (by simp [results, Tryz.results29, go_sem]) rfl ⟨rfl, below_to hbX b1⟩
  · have c := formatBool_any (n == 1) wX
    rw [show textE (.mk 3 n s []) = Lib.formatBool (n == 1) by rw [textE]; by_cases h1 : n = 1 <;> simp [h1, Lib.formatBool, wTrue, wFalse] <;> first | rfl | decide +kernel]
    clear hk hv
    go_enter Tryz.func29, Tryz.ntmps29
    go_wp2_with fail
    refine c.mono ?_
    rintro e w1 ⟨rfl, rfl⟩
    go_wp2_with fail
    exact bodyPost_ret (v := .string ⟨(Lib.formatBool (n == 1)).toArray⟩) (by simp [results, Tryz.results29, go_sem]) rfl ⟨rfl, hbX⟩
  · rw [textE_name]
    clear hk hv
    go_enter Tryz.func29, Tryz.ntmps29
    go_wp2_with fail
    exact bodyPost_ret (v := .string ⟨s.toArray⟩) (by simp [results, Tryz.results29, go_sem]) rfl ⟨rfl, hbX⟩
theorem below_grown {B : Nat} {a w w' : World} {row : Option Nat} (h : Below B a w) (hB : B ≤ a.heap.size) (hg : w.grownBy w' row) (hr : ∀ b, row = some b → B ≤ b) : Below B a w' :=
  ⟨hg.os.trans h.os, hg.tape.trans h.tape, hg.output.trans h.output, Nat.le_trans h.size hg.size, fun i hi => (hg.block i (Nat.lt_of_lt_of_le hi (Nat.le_trans hB h.size)) (fun e => by have := hr i e.symm; omega)).trans (h.block i hi)⟩
theorem str_app (a b : List UInt8) : (⟨a.toArray⟩ ++ ⟨b.toArray⟩ : ByteArray) = ⟨(a ++ b).toArray⟩ := by apply ByteArray.ext; simp
theorem cell_drewN (w : World) (q : Nat) (p : Addr) : (w.drewN q).cell? p = w.cell? p := by unfold World.cell?; rw [show (w.drewN q).heap = w.heap from by first | rfl | simp [World.drewN]]
theorem join_any (g cap : Nat) (ts : List (List UInt8)) (sep : List UInt8) (w : World) (hc : ∀ (j : Nat) t, ts[j]? = some t → w.cell? ⟨g, j, none⟩ = some (.string ⟨t.toArray⟩)) (hg : g < w.heap.size) (hN : ts.length ≤ 1000) (hcap : ts.length ≤ cap) (hl : (Lib.join ts sep).length ≤ 140737488355328) :
    Calls Tryz.prog 49 #[.slice (some ⟨g, 0, none⟩) ts.length cap, .string ⟨sep.toArray⟩] w fun e w' => e = .returned (.string ⟨(Lib.join ts sep).toArray⟩) ∧ Below w.heap.size w w' := by
  have hm : (ts.map fun t => (⟨t.toArray⟩ : ByteArray)).map (fun s => s.data.toList) = ts := by rw [List.map_map]; exact List.map_id ts
  have c := Any.strings_Join Tryz.more156 Tryz.extraB g 0 cap (ts.map fun t => ⟨t.toArray⟩) ⟨sep.toArray⟩ w (fun j x hx => by
    rw [List.getElem?_map] at hx
    cases ht : ts[j]? with
    | none => rw [ht] at hx; cases hx
    | some t =>
      rw [ht] at hx
      simp only [Option.map_some, Option.some.injEq] at hx
      subst hx
      rw [Nat.zero_add]; exact hc j t ht) hg (by rw [List.length_map]; omega) (by rw [List.length_map]; exact hcap) (by rw [hm]; simpa using hl)
  rw [hm, List.length_map, show (⟨sep.toArray⟩ : ByteArray).data.toList = sep by simp] at c
  exact c
/-- How many kids' texts lie in the row. -/
def KTx (w wr : World) (v : Value) (j : Nat) (ks : List Ex) : Prop := wr.ownsRow w.heap.size 9 1 v j ((textsL (ks.take j)).map strV) ∧ Below w.heap.size w wr
set_option maxHeartbeats 4000000 in
set_option maxRecDepth 100000 in
theorem text_all : ∀ (F : Nat) (e : Ex), nodes e ≤ F → nodes e ≤ 100000 → ∀ (v : Value) (S : Nat → Prop) (w : World), ExIn w S e v → EnvP w → allB e = true →
    Calls Tryz.prog 29 #[v] w fun en w' => en = .returned (.string ⟨(textE e).toArray⟩) ∧ Below w.heap.size w w'
  | 0, e, hF, _, _, _, _, _, _, _ => absurd hF (by have := nodes_pos e; omega)
  | F + 1, .mk op n s ks, hF, hN, v, S, w, hv, hE, ha => by
    have IH := text_all F
    have hfit := hv.fit
    have hlE := textE_len _ ha hfit
    obtain ⟨har, hp, hh⟩ := part_arity (all_part ha)
    by_cases hop : 1 ≤ op ∧ op ≤ 4
    · have h0 : ks.length = 0 := by have := arity_in har; omega
      obtain rfl := List.length_eq_zero_iff.1 h0
      exact text_leaf op n s v S w hv hE ha hop
    obtain ⟨h523, k1, k3⟩ := arity_three har hop
    have hkl : allBL ks = true := by rw [allB] at ha; simp only [Bool.and_eq_true] at ha; exact ha.2
    rw [fitE] at hfit
    have hlS := textsL_len2 ks hkl hfit.2
    have hnl : nodesL ks + 1 ≤ 100000 := by rw [nodes] at hN; omega
    have hnF : nodesL ks ≤ F := by rw [nodes] at hF; omega
    have hte : textE (.mk op n s ks) = ownL op (textsL ks) := by
      rw [textE, if_neg (by omega), if_neg (by omega), if_neg (by omega), if_neg (by omega)]
    rw [hte] at hlE ⊢
    have hvv := hv
    obtain ⟨ao, cap, rfl, h2, h3, hr, hk⟩ := hv.get
    unfold Ex.op Ex.num Ex.str Ex.kids at *
    dsimp only at *
    obtain ⟨i0, hi, hz0, hz1, hz2⟩ := info_parts (show (Tryz.prog.info? 9).map (fun i => (i.zero, i.size, i.bytes)) = some (some (.string ⟨#[]⟩), 1, 16) by kernel_rfl)
    have hX := four_new w (.int .i64 op) (.int .i64 n) (.string ⟨s.toArray⟩) (.slice ao ks.length cap) 24
    have hbX := below_alloc w (.cells #[.int .i64 op, .int .i64 n, .string ⟨s.toArray⟩, .slice ao ks.length cap] 24)
    obtain ⟨wX, hwX⟩ : ∃ wX, w.alloc (.cells #[.int .i64 op, .int .i64 n, .string ⟨s.toArray⟩, .slice ao ks.length cap] 24) = wX := ⟨_, rfl⟩
    rw [hwX] at hX hbX
    have hE := hE.later hbX
    have hk : 0 < ks.length → ∃ g o, ao = some ⟨g, o, none⟩ ∧ S g ∧ g < wX.heap.size ∧ RowIn wX S g o ks := fun h => by
      obtain ⟨g, o, a, b, c, d⟩ := hk h
      exact ⟨g, o, a, b, Nat.lt_of_lt_of_le c hbX.size, RowIn.stays (.of hbX) ks g o b c d⟩
    have hX' := hX
    obtain ⟨-, x0, x1, x2, x3, -⟩ := hX'
    have q1 : (op == 1) = false := by rw [beq_eq_false_iff_ne]; omega
    have q2 : (op == 2) = false := by rw [beq_eq_false_iff_ne]; omega
    have q3 : (op == 3) = false := by rw [beq_eq_false_iff_ne]; omega
    have q4 : (op == 4) = false := by rw [beq_eq_false_iff_ne]; omega
    have HR : Hid (KTx wX wX (.slice none 0 0) 0 ks) := Lib.hid ⟨World.ownsRow_nil _ _ _ _, Below.refl _ _⟩
    have HBX := Lib.hid hbX
    have HX := Lib.hid hX
    have HE := Lib.hid hE
    have HK := Lib.hid hk
    have HA := Lib.hid hkl
    have HAR := Lib.hid har
    have HLS := Lib.hid hlS
    clear hvv hv hX hbX hE hk hkl hfit ha hp hh har hr hte hlE hlS
    go_enter Tryz.func29, Tryz.ntmps29
    go_wp2_with fail
    go_loopg [3, 32] (ks.length) (fun a s3 s32 wr => ∃ (j : Nat), j + a = ks.length ∧ s32 = .int .i64 (j : Int) ∧ Hid (KTx wX wr s3 j ks))
    case atStart => exact ⟨0, by omega, rfl, HR⟩
    case round =>
      obtain ⟨j, hja, rfl, HW⟩ := hrel
      clear HR x0 x1 x2 x3 hwX
      have HJ := Lib.hid hja
      by_cases hjk : j < ks.length
      · have hjz : (j : Int) < (ks.length : Int) := by omega
        obtain ⟨g, o, rfl, hS, hg, hrow⟩ := HK.out (by omega)
        obtain ⟨hown, hB⟩ := HW.out
        have hx : ks[j]? = some ks[j] := List.getElem?_eq_getElem hjk
        have hrow2 := RowIn.stays (.of hB) ks g o hS hg hrow
        obtain ⟨v0, v1, v2, v3, c0, c1, c2, c3, he⟩ := hrow2.at hx
        obtain ⟨ao2, cap2, hev, -⟩ := he.get
        obtain ⟨rfl, rfl, rfl, rfl⟩ := agg4 hev
        clear hev
        have hgr : g < wr.heap.size := Nat.lt_of_lt_of_le hg hB.size
        have hbA := below_alloc wr (.cells #[.int .i64 ks[j].op, .int .i64 ks[j].num, .string ⟨ks[j].str.toArray⟩, .slice ao2 ks[j].kids.length cap2] 24)
        have hA := four_new wr (.int .i64 ks[j].op) (.int .i64 ks[j].num) (.string ⟨ks[j].str.toArray⟩) (.slice ao2 ks[j].kids.length cap2) 24
        have hbT := hB.alloc hB.size (.cells #[.int .i64 ks[j].op, .int .i64 ks[j].num, .string ⟨ks[j].str.toArray⟩, .slice ao2 ks[j].kids.length cap2] 24)
        have hownA := own_later hown hbA
        have hkn : nodes ks[j] ≤ nodesL ks := nodes_kid (List.getElem_mem hjk)
        have hka : allB ks[j] = true := all_kid HA.out (List.getElem_mem hjk)
        have cI := IH ks[j] (by omega) (by omega) _ S _ (he.later hbA) (HE.out.later hbT) hka
        have HBT := Lib.hid hbT
        have HOA := Lib.hid hownA
        obtain ⟨-, z0, z1, z2, z3, -⟩ := hA
        clear HW hrow hrow2 he hbA hbT hB HK hja hx IH hown hownA hka hkn
        go_wp2_with fail
        refine cI.mono ?_
        rintro en w2 ⟨rfl, b2⟩
        have hown2 := own_later HOA.out b2
        have hb2 := below_to HBT.out b2
        have hb3 := hb2.alloc hb2.size (.cells #[.string ⟨(textE ks[j]).toArray⟩] 9)
        have hown3 := own_later hown2 (below_alloc w2 (.cells #[.string ⟨(textE ks[j]).toArray⟩] 9))
        have hlw := hb2.size
        have HB3 := Lib.hid hb3
        have HO3 := Lib.hid hown3
        clear cI b2 hown2 hb2 hb3 hown3 HBT HOA c0 c1 c2 c3 z0 z1 z2 z3
        go_wp2_with (at_builtin; refine wpList_append_own _ rfl _ _ 28 rfl wX.heap.size 9 i0 _ 1 16 Tryz.underlying28 hi hz0 hz1 hz2 rfl (by decide) _ _ _ rfl HO3.out ⟨w2.heap.size, 0, none⟩ 1 1 [.string ⟨(textE ks[j]).toArray⟩] rfl rfl (one_news _ _ _) (str_cell _) ?c3 ?c4 ?c5 ?_)
        case c3 => unfold maxLen; omega
        case c4 => omega
        case c5 => rw [alloc_size]; omega
        intro v' w4 hown' hgrow hnil
        have hW4 : KTx wX w4 v' (j + 1) ks := by
          refine ⟨by rw [textsL_at hjk, List.map_append]; exact hown', ?_⟩
          exact below_grown HB3.out (Nat.le_refl _) hgrow (fun b hb => (own_blk HO3.out b hb).1)
        have HW4 := Lib.hid hW4
        clear hown' hgrow hnil hW4 HB3 HO3
        go_wp2_with fail
        go_roundg (ks.length - (j + 1))
        case measure => have := HJ.out; omega
        case rel => exact ⟨j + 1, by have := HJ.out; omega, by go_num, HW4⟩
      · have hjz : ¬ (j : Int) < (ks.length : Int) := by omega
        have hj : j = ks.length := by have := HJ.out; omega
        subst hj
        obtain ⟨hown, hB⟩ := HW.out
        rw [List.take_length] at hown
        have hE2 := HE.out.later hB
        have har := HAR.out
        obtain ⟨-, x0, x1, x2, x3, -⟩ := HX.out.later hB
        have HB := Lib.hid (below_to HBX.out hB)
        have cF := formof_any op wr hE2.forms
        obtain ⟨ao3, cap3, rfl, hc3, hm3, hrow3⟩ := own_slice hown
        obtain ⟨g3, rfl, hg3, hcell⟩ := hrow3 k1
        have hT := textsL_len ks
        have hlS := HLS.out
        clear HW HJ hja IH HK hown hrow3 hi hz0 hz1 hz2 HE HX
        by_cases h56 : op = 5 ∨ op = 6
        · have hl1 : ks.length = 1 := by have := arity_in har; omega
          obtain ⟨t0, ht0⟩ : ∃ t0, textsL ks = [t0] := List.length_eq_one_iff.1 (by rw [hT, hl1])
          obtain ⟨c, hf, ho⟩ := form_ahead h56
          rw [hf] at cF
          have hc0 := hcell 0 (strV t0) (by rw [ht0]; rfl)
          have hl1z : (ks.length : Int) = 1 := by omega
          clear hcell
          go_wp2_with fail
          refine cF.mono ?_
          rintro en w2 ⟨rfl, b2⟩
          have hb2 := below_to HB.out b2
          have hc2 : w2.cell? ⟨g3, 0, none⟩ = some (strV t0) := by rw [b2.cell (p := ⟨g3, 0, none⟩) hg3]; exact hc0
          have hg2 : g3 < w2.heap.size := Nat.lt_of_lt_of_le hg3 b2.size
          have HB2 := Lib.hid (hb2.alloc hb2.size (.cells #[.int .i64 op, .string ⟨[c].toArray⟩, .int .i64 1, .int .i64 6] 74))
          have hll := HLS.out
          rw [ht0] at hll
          have hlt : t0.length ≤ 100000000 := by simp only [lenS] at hll; omega
          have hgn : ¬ g3 = w2.heap.size := by omega
          unfold strV at hc2
          clear hc0 cF b2 hb2 hll x0 x1 x2 x3
          go_wp2_with fail
          go_quiet (fail)
          go_wp2_with fail
          exact bodyPost_ret (v := .string ((⟨[c].toArray⟩ : ByteArray) ++ (⟨t0.toArray⟩ : ByteArray))) (by simp [results, Tryz.results29, go_sem]) rfl ⟨by rw [ho, ht0, str_app]; rfl, below_drewN HB2.out _⟩
        by_cases h17 : op ≤ 17
        · have hl2 : ks.length = 2 := by have := arity_in har; omega
          obtain ⟨t0, t1, ht0⟩ : ∃ t0 t1, textsL ks = [t0, t1] := len_two (by rw [hT, hl2])
          obtain ⟨ln, hf, hl0, hl6, hsl, ho⟩ := form_two (op := op) (by omega)
          rw [hf] at cF
          have hc0 := hcell 0 (strV t0) (by rw [ht0]; rfl)
          have hc1 := hcell 1 (strV t1) (by rw [ht0]; rfl)
          have hl2z : (ks.length : Int) = 2 := by omega
          have hcell' : ∀ (j : Nat) t, (textsL ks)[j]? = some t → wr.cell? ⟨g3, j, none⟩ = some (.string ⟨t.toArray⟩) := fun j t hj => hcell j _ (by rw [List.getElem?_map, hj]; rfl)
          clear hcell
          go_wp2_with fail
          refine cF.mono ?_
          rintro en w2 ⟨rfl, b2⟩
          have hb2 := below_to HB.out b2
          have hg2 : g3 < w2.heap.size := Nat.lt_of_lt_of_le hg3 b2.size
          have HB2 := Lib.hid (hb2.alloc hb2.size (.cells #[.int .i64 op, .string ⟨(signL op).toArray⟩, .int .i64 2, .int .i64 ln] 74))
          have hll := HLS.out
          rw [ht0] at hll
          have hgn : ¬ g3 = w2.heap.size := by omega
          have hq0 : (ln == 0) = false := beq_eq_false_iff_ne.2 hl0
          have hq6 : (ln == 6) = false := beq_eq_false_iff_ne.2 hl6
          have cJ := join_any g3 cap3 [t0, t1] ([32] ++ signL op ++ [32]) (w2.alloc (.cells #[.int .i64 op, .string ⟨(signL op).toArray⟩, .int .i64 2, .int .i64 ln] 74))
            (fun j t hj => by
              rw [(below_alloc w2 _).cell (p := ⟨g3, j, none⟩) hg2, b2.cell (p := ⟨g3, j, none⟩) hg3]
              exact hcell' j t (by rw [ht0]; exact hj)) (by simp; omega) (by simp) (by simp; omega) (by
              rw [twoL_join]; simp only [lenS, List.length_append, List.length_cons, List.length_nil] at hll ⊢; omega)
          rw [show (⟨([32] ++ signL op ++ [32] : List UInt8).toArray⟩ : ByteArray) = (⟨#[32]⟩ : ByteArray) ++ (⟨(signL op).toArray⟩ : ByteArray) ++ (⟨#[32]⟩ : ByteArray) by apply ByteArray.ext; simp] at cJ
          have hJl : (Lib.join [t0, t1] (32 :: (signL op ++ [32]))).length < 9000000000 := by
            rw [twoL_join]; simp only [lenS, List.length_append, List.length_cons, List.length_nil] at hll ⊢; omega
          have hov1 : ¬ 9223372036854775807 < 1 + (Lib.join [t0, t1] (32 :: (signL op ++ [32]))).length := by omega
          have hov2 : ¬ 9223372036854775807 < 1 + (Lib.join [t0, t1] (32 :: (signL op ++ [32]))).length + 1 := by omega
          clear cF hb2 x0 x1 x2 x3 b2 hc0 hc1 hll hcell'
          go_wp2_with fail
          refine cJ.mono ?_
          rintro en w3 ⟨rfl, b3⟩
          have hb3 := below_to HB2.out b3
          clear cJ b3
          go_wp2_with fail
          exact bodyPost_ret (v := .string ((⟨#[40]⟩ : ByteArray) ++ (⟨(Lib.join [t0, t1] (32 :: (signL op ++ [32]))).toArray⟩ : ByteArray) ++ (⟨#[41]⟩ : ByteArray))) (by simp [results, Tryz.results29, go_sem]) rfl ⟨by
            rw [ho, ht0, twoL_join]
            congr 3
            apply ByteArray.ext; simp [headL], hb3⟩
        · have hl2 : 1 ≤ ks.length := k1
          obtain ⟨kk, hf, hsl, ho⟩ := form_call (op := op) (by omega)
          rw [hf] at cF
          clear x1 x2 x3
          go_wp2_with fail
          refine cF.mono ?_
          rintro en w2 ⟨rfl, b2⟩
          have hb2 := below_to HB.out b2
          have hg2 : g3 < w2.heap.size := Nat.lt_of_lt_of_le hg3 b2.size
          have HB2 := Lib.hid (hb2.alloc hb2.size (.cells #[.int .i64 op, .string ⟨(wordL op).toArray⟩, .int .i64 kk, .int .i64 0] 74))
          have hgn : ¬ g3 = w2.heap.size := by omega
          have hwl : (wordL op).length < 100 := by omega
          have hll := HLS.out
          have hcl := commaL_len (textsL ks)
          have cJ := fun q => join_any g3 cap3 (textsL ks) [44, 32] ((w2.alloc (.cells #[.int .i64 op, .string ⟨(wordL op).toArray⟩, .int .i64 kk, .int .i64 0] 74)).drewN q)
            (fun j t hj => by
              rw [cell_drewN, (below_alloc w2 _).cell (p := ⟨g3, j, none⟩) hg2, b2.cell (p := ⟨g3, j, none⟩) hg3]
              exact hcell j _ (by rw [List.getElem?_map, hj]; rfl)) (by simp; omega) (by omega) (by omega) (by
              rw [← commaL_join]; omega)
          rw [hT] at cJ
          have hJl : (Lib.join (textsL ks) [44, 32]).length < 1000000000 := by rw [← commaL_join]; omega
          have HF4 := Lib.hid (four_new w2 (.int .i64 op) (.string ⟨(wordL op).toArray⟩) (.int .i64 kk) (.int .i64 0) 74)
          have hov0 : ¬ 9223372036854775807 < (wordL op).length + 1 := by omega
          have hov1 : ¬ 9223372036854775807 < (wordL op).length + 1 + (Lib.join (textsL ks) [44, 32]).length := by omega
          have hov2 : ¬ 9223372036854775807 < (wordL op).length + 1 + (Lib.join (textsL ks) [44, 32]).length + 1 := by omega
          clear cF hb2 x0 b2 hcell hll hcl
          go_wp2_with fail
          go_region_with (go_at_call 49; refine (cJ _).mono ?_; rintro e wy ⟨rfl, hby⟩; obtain ⟨-, z0, z1, z2, z3, -⟩ := (HF4.out.later (below_drewN (Below.refl _ _) _)).later hby)
          all_goals
            go_wp2_with fail
            go_ret
            have hb3 := below_to (below_drewN HB2.out _) hby
            refine ⟨?_, by first | exact hb3 | exact below_drewN hb3 _⟩
            rw [ho, commaL_join]
            refine congrArg Ending.returned (Eq.trans (b := Value.string ((⟨(wordL op).toArray⟩ : ByteArray) ++ (⟨#[40]⟩ : ByteArray) ++ (⟨(Lib.join (textsL ks) [44, 32]).toArray⟩ : ByteArray) ++ (⟨#[41]⟩ : ByteArray))) ?_ (congrArg Value.string (ByteArray.ext (by simp))))
            first | rfl | simp [go_sem]
end
end
/- parse.Text. -/
section
open Go.RowKit

set_option maxHeartbeats 2000000 in
set_option maxRecDepth 100000 in
/-- parse.Text: of an expression that may be, its own text; of another one, nothing. -/
theorem ptext_any (e : Ex) (v : Value) (S : Nat → Prop) (w : World) (hE : EnvP w) (hv : ExIn w S e v) :
    Calls Tryz.prog 20 #[v] w fun en w' => en = .returned (.string ⟨(if chkB e then textE e else []).toArray⟩) ∧ Below w.heap.size w w' := by
  obtain ⟨ao, cap, rfl, h2, h3, hr, hk⟩ := hv.get
  have hX := four_new w (.int .i64 e.op) (.int .i64 e.num) (.string ⟨e.str.toArray⟩) (.slice ao e.kids.length cap) 24
  have hbX := below_alloc w (.cells #[.int .i64 e.op, .int .i64 e.num, .string ⟨e.str.toArray⟩, .slice ao e.kids.length cap] 24)
  have hEX := hE.later hbX
  have hvX := hv.later hbX
  have c := pcheck_any e _ S _ hEX hvX
  obtain ⟨wX, hwX⟩ : ∃ wX, w.alloc (.cells #[.int .i64 e.op, .int .i64 e.num, .string ⟨e.str.toArray⟩, .slice ao e.kids.length cap] 24) = wX := ⟨_, rfl⟩
  rw [hwX] at hX hbX c hEX hvX
  have hX' := hX
  obtain ⟨-, x0, x1, x2, x3, -⟩ := hX
  cases hc : chkB e with
  | false =>
    rw [hc] at c
    clear hk hv hX' hEX hvX
    go_enter Tryz.func20, Tryz.ntmps20
    go_wp2_with fail
    refine c.mono ?_
    rintro en w1 ⟨rfl, b1⟩
    go_wp2_with fail
    exact bodyPost_ret (v := .string ⟨#[]⟩) (by simp [results, Tryz.results20, go_sem]) rfl ⟨rfl, below_to hbX b1⟩
  | true =>
    rw [hc] at c
    unfold chkB at hc
    simp only [Bool.and_eq_true, decide_eq_true_eq] at hc
    have cT := fun w1 (b : Below wX.heap.size wX w1) => text_all (nodes e) e (Nat.le_refl _) (by omega) _ S w1 (hvX.later b) (hEX.later b) hc.2
    clear hk hv hEX hvX
    go_enter Tryz.func20, Tryz.ntmps20
    go_wp2_with fail
    refine c.mono ?_
    rintro en w1 ⟨rfl, b1⟩
    have c2 := cT w1 b1
    obtain ⟨-, y0, y1, y2, y3, -⟩ := hX'.later b1
    clear c cT x0 x1 x2 x3 hwX
    go_wp2_with fail
    refine c2.mono ?_
    rintro en w2 ⟨rfl, b2⟩
    go_wp2_with fail
    exact bodyPost_ret (v := .string ⟨(textE e).toArray⟩) (by simp [results, Tryz.results20, go_sem]) rfl ⟨by simp, below_to (below_to hbX b1) b2⟩
end
end Go.Proofs.YtaihlfjbgljhlaaGreatDoor
