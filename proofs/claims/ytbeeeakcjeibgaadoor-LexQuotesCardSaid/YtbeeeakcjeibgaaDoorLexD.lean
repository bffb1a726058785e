/- The contracts of lex.number, lex.name. -/
import Derived.Test.YtbeeeakcjeibgaaDoorLexRun
namespace Go.Proofs.YtbeeeakcjeibgaaDoor
open Go.RowKit

/-- A token as it stands in memory, or comes back. -/
abbrev T4 (k : Int) (s : ByteArray) (n a : Int) : Value := .agg #[.int .i64 k, .string s, .int .i64 n, .int .i64 a]
/-- A block of four cells of the call's own. -/
structure Four (w : World) (g : Nat) (a b c d : Value) : Prop where
  lt : g < w.heap.size
  c0 : w.cell? ⟨g, 0, none⟩ = some a
  c1 : w.cell? ⟨g, 1, none⟩ = some b
  c2 : w.cell? ⟨g, 2, none⟩ = some c
  c3 : w.cell? ⟨g, 3, none⟩ = some d
  f0 : w.frozen? ⟨g, 0, none⟩ = false
  f1 : w.frozen? ⟨g, 1, none⟩ = false
  f2 : w.frozen? ⟨g, 2, none⟩ = false
  f3 : w.frozen? ⟨g, 3, none⟩ = false
theorem Four.later {w w' : World} {g : Nat} {a b c d : Value} (h : Four w g a b c d) (hb : Below w.heap.size w w') : Four w' g a b c d :=
  ⟨Nat.lt_of_lt_of_le h.lt hb.size, (hb.cell (p := ⟨g, 0, none⟩) h.lt).trans h.c0, (hb.cell (p := ⟨g, 1, none⟩) h.lt).trans h.c1, (hb.cell (p := ⟨g, 2, none⟩) h.lt).trans h.c2, (hb.cell (p := ⟨g, 3, none⟩) h.lt).trans h.c3,
    (hb.frozen (p := ⟨g, 0, none⟩) h.lt).trans h.f0, (hb.frozen (p := ⟨g, 1, none⟩) h.lt).trans h.f1, (hb.frozen (p := ⟨g, 2, none⟩) h.lt).trans h.f2, (hb.frozen (p := ⟨g, 3, none⟩) h.lt).trans h.f3⟩
theorem four_new (w : World) (a b c d : Value) (t : TypeId) : Four (w.alloc (.cells #[a, b, c, d] t)) w.heap.size a b c d := by
  have hk : w.heap.size < (w.alloc (.cells #[a, b, c, d] t)).heap.size := by rw [alloc_size]; omega
  refine ⟨hk, ?_, ?_, ?_, ?_, ?_, ?_, ?_, ?_⟩
  · rw [cells_of_alloc]; rfl
  · rw [cells_of_alloc]; rfl
  · rw [cells_of_alloc]; rfl
  · rw [cells_of_alloc]; rfl
  all_goals simp
theorem below_four {w w1 : World} {g : Nat} (h : Below w.heap.size w w1) (hg : w.heap.size ≤ g) (a b c d : Value) :
    Below w.heap.size w ((((w1.setCell ⟨g, 0, none⟩ a).setCell ⟨g, 1, none⟩ b).setCell ⟨g, 2, none⟩ c).setCell ⟨g, 3, none⟩ d) :=
  (((h.setCell (p := ⟨g, 0, none⟩) hg _).setCell (p := ⟨g, 1, none⟩) hg _).setCell (p := ⟨g, 2, none⟩) hg _).setCell (p := ⟨g, 3, none⟩) hg _

/-- What is told of a piece: the token and its bytes, or that there is none. -/
def toldV (x : Pc) (R : List Pc) : Option Fd → Value
  | none => .tuple #[T4 0 ⟨#[]⟩ 0 0, .int .i64 0]
  | some f => .tuple #[T4 f.k ⟨f.s.toArray⟩ f.n 0, .int .i64 ((flat (x :: R.take f.j)).length : Int)]
def Told (x : Pc) (R : List Pc) (o : Option Fd) (w : World) (e : Ending) (w' : World) : Prop := e = .returned (toldV x R o) ∧ Below w.heap.size w w'

theorem take_takeWhile (p : Pc → Bool) (R : List Pc) : R.take (R.takeWhile p).length = R.takeWhile p := (List.prefix_iff_eq_take.1 (List.takeWhile_prefix p)).symm
theorem flat_pre {t : ByteArray} {P D : List Pc} (hP : pcs t.data.toList = P) (hD : D <+: P) : (flat D).length ≤ t.size ∧ (t.extract 0 (flat D).length).data.toList = flat D := by
  obtain ⟨E, rfl⟩ := hD
  have e : t.data.toList = flat D ++ flat E := by rw [← flat_append, ← hP, flat_pcs]
  have hl := congrArg List.length e
  rw [size_list, List.length_append] at hl
  refine ⟨by omega, ?_⟩
  rw [Lib.extract_data, List.drop_zero, Nat.sub_zero, e, List.take_left]
theorem two_cells (w : World) (cs : List Int) (t : TypeId) : ∀ j c, cs[j]? = some c → (w.alloc (.cells (cs.map (Value.int .i64)).toArray t)).cell? ⟨w.heap.size, j, none⟩ = some (.int .i64 c) := by
  intro j c hc
  rw [cells_of_alloc]
  simp [hc]
theorem inC_dig : inC [2] = isDig := by
  funext y; unfold inC isDig
  by_cases h : classZ (y.1 : Int) = 2 <;> simp [h]
theorem inC_word : inC [1, 2] = isWord := by
  funext y; unfold inC isWord
  by_cases h : classZ (y.1 : Int) = 1 <;> by_cases h2 : classZ (y.1 : Int) = 2 <;> simp [h, h2]

set_option maxHeartbeats 1000000 in
set_option maxRecDepth 100000 in
theorem number_any (t : ByteArray) (x : Pc) (R : List Pc) (w : World) (hs : t.size ≤ 1099511627776) (h : pcs t.data.toList = x :: R) (hx : classZ (x.1 : Int) = 2) (hE : Errs w) :
    Calls Tryd.prog 21 #[.string t] w (Told x R (numF x R) w) := by
  obtain ⟨D, hD⟩ : ∃ D, R.takeWhile isDig = D := ⟨_, rfl⟩
  have htw : (x :: R).takeWhile (inC [2]) = x :: D := by
    rw [inC_dig, List.takeWhile_cons_of_pos (by simp [isDig, hx]), hD]
  have hpre : x :: D <+: x :: R := by rw [← htw]; exact List.takeWhile_prefix _
  obtain ⟨hn, hex⟩ := flat_pre h hpre
  have hPc : Pcd (x :: R) := h ▸ Pcd.of _
  have hdig : ∀ b ∈ flat (x :: D), 48 ≤ b.toNat ∧ b.toNat ≤ 57 := by
    refine flat_digs _ (fun y hy => ⟨hPc.fit y (hpre.subset hy), ?_⟩)
    rcases List.mem_cons.1 hy with rfl | hy
    · exact hx
    · rw [← hD] at hy
      have := List.all_eq_true.1 (List.all_takeWhile (p := isDig) (l := R)) y hy
      simpa [isDig] using this
  have hne : flat (x :: D) ≠ [] := by
    rw [flat_cons]; intro e; exact hPc.head.ne (List.append_eq_nil_iff.1 e).1
  obtain ⟨k1, k2⟩ := parse_digs _ hne hdig
  have hb0 := below_alloc w (.cells #[.int .i64 0, .string ⟨#[]⟩, .int .i64 0, .int .i64 0] 32)
  have hF := four_new w (.int .i64 0) (.string ⟨#[]⟩) (.int .i64 0) (.int .i64 0) 32
  obtain ⟨w0, hw0⟩ : ∃ w0, w.alloc (.cells #[.int .i64 0, .string ⟨#[]⟩, .int .i64 0, .int .i64 0] 32) = w0 := ⟨_, rfl⟩
  rw [hw0] at hb0 hF
  have hb1 := below_alloc w0 (.cells #[.int .i64 2] 3)
  have cR := run_any [2] w0.heap.size 1 t _ (w0.alloc (.cells #[.int .i64 2] 3)) hs (by decide) (by rw [alloc_size]; omega) (two_cells w0 [2] 3) h
  rw [htw] at cR
  have hnum : numF x R = if valN (flat (x :: D)) < 9223372036854775808 then some ⟨1, [], valN (flat (x :: D)), D.length⟩ else none := by unfold numF; rw [hD]
  have htk : R.take D.length = D := by rw [← hD]; exact take_takeWhile _ _
  obtain ⟨L, hL⟩ : ∃ L, flat (x :: D) = L := ⟨_, rfl⟩
  have htold : ∀ v : Nat, toldV x R (some ⟨1, [], v, D.length⟩) = .tuple #[T4 1 ⟨#[]⟩ v 0, .int .i64 (L.length : Int)] := by
    intro v; unfold toldV; dsimp only; rw [htk, hL]; rfl
  rw [hL] at cR hn hex k1 k2 hnum
  obtain ⟨O, hO⟩ : ∃ O, numF x R = O := ⟨_, rfl⟩
  rw [hO] at hnum ⊢
  have HO := Lib.hid hnum
  have hEb : Errs (w0.alloc (.cells #[.int .i64 2] 3)) := hE.later (hb0.trans (hb1.mono hb0.size))
  have HK1 := Lib.hid k1
  have HK2 := Lib.hid k2
  have HT := Lib.hid htold
  have hnz : (L.length : Int) ≤ (t.size : Int) := by omega
  have cP := fun w hE => parse_any (t.extract 0 L.length) w (by have := Lib.size_eq (t.extract 0 L.length); rw [hex] at this; omega) hE
  rw [hex] at cP
  clear k1 k2 htold hnum hO htk hL hne hdig hPc hpre htw hD h hx hex hE
  go_enter Tryd.func21, Tryd.ntmps21
  go_wp2_with fail
  refine cR.mono ?_
  rintro e w1 ⟨rfl, b1⟩
  have hE1 := hEb.later b1
  have hF1 := (hF.later hb1).later b1
  have hbw := below_to (below_to hb0 hb1) b1
  clear cR hF hb0 hb1 b1 hEb
  go_wp2_with fail
  refine (cP _ hE1).mono ?_
  rintro e w2 ⟨⟨v, hp, rfl⟩ | ⟨v, u, a, hp, rfl⟩, b2⟩
  · have hlt : valN L < 9223372036854775808 := by
      rcases Nat.lt_or_ge (valN L) 9223372036854775808 with hlt | hge
      · exact hlt
      · exact absurd hp (HK2.out hge v)
    rw [HK1.out hlt] at hp
    injection hp with hp
    subst hp
    obtain ⟨-, z0, z1, z2, z3, f0, f1, f2, f3⟩ := hF1.later b2
    have hb3 := below_to hbw b2
    have hO := HO.out
    rw [if_pos hlt] at hO
    have HO2 := Lib.hid hO
    clear hO HO
    clear cP hw0 hF1 hbw b2 hE1
    generalize valN L = v at *
    go_wp2
    exact bodyPost_ret (v := .tuple #[T4 1 ⟨#[]⟩ v 0, .int .i64 (L.length : Int)]) (by simp [results, Tryd.results21, go_sem, z0, z1, z2, z3]) rfl ⟨by rw [HO2.out, HT.out], below_four hb3 (Nat.le_refl _) _ _ _ _⟩
  · have hge : ¬ valN L < 9223372036854775808 := fun hlt => hp _ (HK1.out hlt)
    obtain ⟨-, z0, z1, z2, z3, f0, f1, f2, f3⟩ := hF1.later b2
    have hb3 := below_to hbw b2
    have hO := HO.out
    rw [if_neg hge] at hO
    have HO2 := Lib.hid hO
    clear hO HO
    clear cP hw0 hF1 hbw b2 hE1 hp
    go_wp2
    exact bodyPost_ret (v := toldV x R none) (by simp [toldV, results, Tryd.results21, go_sem, z0, z1, z2, z3]) rfl ⟨by rw [HO2.out], below_four hb3 (Nat.le_refl _) _ _ _ _⟩

set_option maxHeartbeats 1000000 in
set_option maxRecDepth 100000 in
theorem name_any (t : ByteArray) (x : Pc) (R : List Pc) (w : World) (hs : t.size ≤ 1099511627776) (h : pcs t.data.toList = x :: R) (hx : classZ (x.1 : Int) = 1) :
    Calls Tryd.prog 22 #[.string t] w (Told x R (nameF x R) w) := by
  obtain ⟨D, hD⟩ : ∃ D, R.takeWhile isWord = D := ⟨_, rfl⟩
  have htw : (x :: R).takeWhile (inC [1, 2]) = x :: D := by
    rw [inC_word, List.takeWhile_cons_of_pos (by simp [isWord, hx]), hD]
  have hpre : x :: D <+: x :: R := by rw [← htw]; exact List.takeWhile_prefix _
  obtain ⟨hn, hex⟩ := flat_pre h hpre
  have hb0 := below_alloc w (.cells #[.int .i64 0, .string ⟨#[]⟩, .int .i64 0, .int .i64 0] 32)
  have hF := four_new w (.int .i64 0) (.string ⟨#[]⟩) (.int .i64 0) (.int .i64 0) 32
  obtain ⟨w0, hw0⟩ : ∃ w0, w.alloc (.cells #[.int .i64 0, .string ⟨#[]⟩, .int .i64 0, .int .i64 0] 32) = w0 := ⟨_, rfl⟩
  rw [hw0] at hb0 hF
  have hb1 := below_alloc w0 (.cells #[.int .i64 1, .int .i64 2] 3)
  have cR := run_any [1, 2] w0.heap.size 2 t _ (w0.alloc (.cells #[.int .i64 1, .int .i64 2] 3)) hs (by decide) (by rw [alloc_size]; omega) (two_cells w0 [1, 2] 3) h
  rw [htw] at cR
  have hname : nameF x R = if (flat (x :: D)).length ≤ 24 then some ⟨3, flat (x :: D), 0, D.length⟩ else none := by unfold nameF; rw [hD]
  have htk : R.take D.length = D := by rw [← hD]; exact take_takeWhile _ _
  obtain ⟨L, hL⟩ : ∃ L, flat (x :: D) = L := ⟨_, rfl⟩
  have htold : toldV x R (some ⟨3, L, 0, D.length⟩) = .tuple #[T4 3 ⟨L.toArray⟩ 0 0, .int .i64 (L.length : Int)] := by
    unfold toldV; dsimp only; rw [htk, hL]; rfl
  rw [hL] at cR hn hex hname
  rw [hname]
  have HT := Lib.hid htold
  have hxt : t.extract 0 L.length = ⟨L.toArray⟩ := by
    apply ByteArray.ext; apply Array.toList_inj.1; rw [hex]
  have hnz : (L.length : Int) ≤ (t.size : Int) := by omega
  have cC := fun w => clone_any ⟨L.toArray⟩ w (by show L.toArray.size ≤ _; rw [List.size_toArray]; omega)
  clear htold hname htk hL hpre htw hD h hx hex
  by_cases h24 : L.length ≤ 24
  · have h24z : ¬ (24 : Int) < (L.length : Int) := by omega
    rw [if_pos h24]
    go_enter Tryd.func22, Tryd.ntmps22
    go_wp2_with fail
    refine cR.mono ?_
    rintro e w1 ⟨rfl, b1⟩
    have hF1 := (hF.later hb1).later b1
    have hbw := below_to (below_to hb0 hb1) b1
    clear cR hF hb0 hb1 b1
    go_wp2_with fail
    refine (cC _).mono ?_
    rintro e w2 ⟨rfl, b2⟩
    obtain ⟨-, z0, z1, z2, z3, f0, f1, f2, f3⟩ := hF1.later b2
    have hb3 := below_to hbw b2
    clear cC hw0 hF1 hbw b2
    go_wp2
    exact bodyPost_ret (v := .tuple #[T4 3 ⟨L.toArray⟩ 0 0, .int .i64 (L.length : Int)]) (by simp [results, Tryd.results22, go_sem, z0, z1, z2, z3]) rfl ⟨by rw [HT.out], below_four hb3 (Nat.le_refl _) _ _ _ _⟩
  · have h24z : (24 : Int) < (L.length : Int) := by omega
    rw [if_neg h24]
    go_enter Tryd.func22, Tryd.ntmps22
    go_wp2_with fail
    refine cR.mono ?_
    rintro e w1 ⟨rfl, b1⟩
    obtain ⟨-, z0, z1, z2, z3, f0, f1, f2, f3⟩ := (hF.later hb1).later b1
    have hbw := below_to (below_to hb0 hb1) b1
    clear cR hF hb0 hb1 b1 cC hw0
    go_wp2
    exact bodyPost_ret (v := toldV x R none) (by simp [toldV, results, Tryd.results22, go_sem, z0, z1, z2, z3]) rfl ⟨rfl, below_four hbw (Nat.le_refl _) _ _ _ _⟩
end Go.Proofs.YtbeeeakcjeibgaaDoor
