/- The contract of lex.run: how many bytes the pieces have that are of some classes, up to the first other one. -/
import Derived.Test.YtbeeeakcjeibgaaDoorLexC
namespace Go.Proofs.YtbeeeakcjeibgaaDoor
open Go.RowKit

def inC (cs : List Int) (x : Pc) : Bool := cs.contains (classZ (x.1 : Int))
theorem takeWhile_at {p : Pc → Bool} {C Y : List Pc} (hC : ∀ y ∈ C, p y = true) (hY : ∀ y, Y.head? = some y → p y = false) : (C ++ Y).takeWhile p = C := by
  rw [List.takeWhile_append_of_pos hC]
  cases Y with
  | nil => simp
  | cons y Y => rw [List.takeWhile_cons_of_neg (by rw [hY y rfl]; simp), List.append_nil]
theorem pcs_piece (s : ByteArray) (pos : Nat) (h : pos < s.size) : ∃ x : Pc, x.1 = (Utf8.decode s pos).1 ∧ x.2.length = (Utf8.decode s pos).2 ∧ pcs (s.data.toList.drop pos) = x :: pcs (s.data.toList.drop (pos + (Utf8.decode s pos).2)) := by
  have hw := width_in s pos h
  refine ⟨((Utf8.decode s pos).1, (s.data.toList.drop pos).take (Utf8.decode s pos).2), rfl, ?_, ?_⟩
  · dsimp only
    rw [List.length_take, List.length_drop, ← Lib.size_eq]; omega
  · rw [pcs_step _ (drop_ne s pos h), Lib.decodeL_drop, List.drop_drop]
/-- How far the pieces are read. -/
def At (t : ByteArray) (P : List Pc) (pos : Nat) (C Y : List Pc) : Prop := C ++ Y = P ∧ pcs (t.data.toList.drop pos) = Y ∧ (flat C).length = pos ∧ pos ≤ t.size
theorem At.start (t : ByteArray) (P : List Pc) (h : pcs t.data.toList = P) : At t P 0 [] P := ⟨rfl, by simpa using h, rfl, Nat.zero_le _⟩
theorem At.next {t : ByteArray} {P : List Pc} {pos : Nat} {C Y : List Pc} (h : At t P pos C Y) (hp : pos < t.size) :
    ∃ x Z, Y = x :: Z ∧ x.1 = (Utf8.decode t pos).1 ∧ x.2.length = (Utf8.decode t pos).2 ∧ At t P (pos + (Utf8.decode t pos).2) (C ++ [x]) Z := by
  obtain ⟨h1, h2, h3, h4⟩ := h
  obtain ⟨x, e1, e2, e3⟩ := pcs_piece t pos hp
  have hw := width_in t pos hp
  refine ⟨x, _, by rw [← h2, e3], e1, e2, ?_, rfl, ?_, hw.2⟩
  · rw [List.append_assoc, ← h1, ← h2, e3]; rfl
  · rw [flat_append, List.length_append, h3, flat_cons, flat_nil, List.append_nil, e2]
theorem At.done {t : ByteArray} {P : List Pc} {pos : Nat} {C Y : List Pc} (h : At t P pos C Y) (hp : ¬ pos < t.size) : Y = [] ∧ C = P ∧ pos = t.size := by
  obtain ⟨h1, h2, h3, h4⟩ := h
  rw [drop_nil t pos hp, pcs_nil] at h2
  subst h2
  exact ⟨rfl, by simpa using h1, by omega⟩

set_option maxHeartbeats 2000000 in
set_option maxRecDepth 100000 in
theorem run_any (cs : List Int) (g cap : Nat) (t : ByteArray) (P : List Pc) (w : World) (hs : t.size ≤ 1099511627776) (hl : cs.length ≤ 100) (hg : g < w.heap.size)
    (hc : ∀ j c, cs[j]? = some c → w.cell? ⟨g, j, none⟩ = some (.int .i64 c)) (hP : pcs t.data.toList = P) :
    Calls Tryd.prog 40 #[.string t, .slice (some ⟨g, 0, none⟩) cs.length cap] w fun e w' => e = .returned (.int .i64 ((flat (P.takeWhile (inC cs))).length : Int)) ∧ Below w.heap.size w w' := by
  have h0 : At t P 0 [] P := At.start t P hP
  have hsz : (flat P).length = t.size := by rw [← hP, flat_pcs]; exact size_list t
  have H0 := Lib.hid h0
  have HC := Lib.hid hc
  have HSZ := Lib.hid hsz
  clear h0 hc hP hsz
  go_enter Tryd.func40, Tryd.ntmps40
  go_wp2
  go_step3
  go_wp2
  go_step3
  go_wp2
  go_loopg [] (P.length) (fun n wr => ∃ pos C Y, Hid (At t P pos C Y ∧ (∀ y ∈ C, inC cs y = true)) ∧ Y.length = n ∧ pos ≤ t.size ∧ wr = w.iter t pos)
  case atStart => exact ⟨0, [], P, Lib.hid ⟨H0.out, fun y hy => by cases hy⟩, rfl, by omega, rfl⟩
  case round =>
    obtain ⟨pos, C, Y, HA, hn, hps, rfl⟩ := hrel
    by_cases hp : pos < t.size
    · have hnx : ∀ ty, (Instr.next (.pointer (some ⟨w.heap.size, 0, none⟩)) true ty).run Tryd.prog (w.iter t pos) = _ := fun ty => run_next_any w t pos ty hp
      obtain ⟨x, Z, hY, hx1, hx2, hA2⟩ := HA.out.1.next hp
      have hw := width_in t pos hp
      subst hY
      have cK := fun w => class_any ((Utf8.decode t pos).1 : Int) w
      obtain ⟨K, hK⟩ : ∃ K, classZ ((Utf8.decode t pos).1 : Int) = K := ⟨_, rfl⟩
      have hin : inC cs x = cs.contains K := by unfold inC; rw [hx1, hK]
      rw [hK] at cK
      have HN := Lib.hid hin
      have HX := Lib.hid hA2
      simp only [List.length_cons] at hn
      clear hin hA2 hK hx1 hx2 H0
      go_wp2_with fail
      refine (cK _).mono ?_
      rintro e w1 ⟨rfl, rfl⟩
      clear cK
      go_wp2_with fail
      go_loopg [20] (cs.length) (fun g2 s20 wy => ∃ j : Nat, j + g2 = cs.length ∧ s20 = .int .i64 (j : Int) ∧ Hid (∀ (i : Nat) c, i < j → cs[i]? = some c → c ≠ K) ∧ w.iter t (pos + (Utf8.decode t pos).2) = wy)
      case atStart => exact ⟨0, by omega, rfl, Lib.hid (fun i c h => absurd h (Nat.not_lt_zero i)), rfl⟩
      case round =>
        obtain ⟨j, hj, rfl, HJ, rfl⟩ := hrel
        by_cases hlt : j < cs.length
        · have hjz : (j : Int) < (cs.length : Int) := by omega
          obtain ⟨c, hcj⟩ : ∃ c, cs[j]? = some c := ⟨_, List.getElem?_eq_getElem hlt⟩
          have hcell : (w.iter t (pos + (Utf8.decode t pos).2)).cell? ⟨g, j, none⟩ = some (.int .i64 c) :=
            ((iter_below w t _).cell (p := ⟨g, j, none⟩) hg).trans (HC.out j c hcj)
          have HCJ := Lib.hid hcj
          clear hcj
          by_cases heq : c = K
          · subst heq
            go_wp2_with fail
            go_roundg Z.length
            case measure => omega
            case rel =>
              refine ⟨_, _, Z, Lib.hid ⟨HX.out, ?_⟩, rfl, by omega, rfl⟩
              intro y hy
              rcases List.mem_append.1 hy with hy | hy
              · exact HA.out.2 y hy
              · simp only [List.mem_singleton] at hy
                subst hy
                rw [HN.out]
                simp only [List.contains_iff_mem]
                exact List.mem_of_getElem? HCJ.out
          · have hne : (c == K) = false := beq_eq_false_iff_ne.2 heq
            go_wp2_with fail
            go_roundg (gk - 1)
            case measure => omega
            case rel =>
              refine ⟨j + 1, by omega, by go_num, Lib.hid ?_, rfl⟩
              intro i c2 hi hc2
              rcases Nat.lt_or_eq_of_le (Nat.le_of_lt_succ hi) with h | h
              · exact HJ.out i c2 h hc2
              · subst h
                rw [HCJ.out] at hc2
                injection hc2 with hc2
                subst hc2; exact heq
        · have hjz : ¬ (j : Int) < (cs.length : Int) := by omega
          have hno : inC cs x = false := by
            rw [HN.out, Bool.eq_false_iff]
            intro h
            rw [List.contains_iff_mem] at h
            obtain ⟨i, hi⟩ := List.getElem?_of_mem h
            have := (List.getElem?_eq_some_iff.1 hi).1
            exact HJ.out i K (by omega) hi rfl
          have hend : (flat (P.takeWhile (inC cs))).length = pos := by
            rw [← HA.out.1.1, takeWhile_at HA.out.2 (fun y hy => by simp only [List.head?_cons, Option.some.injEq] at hy; subst hy; exact hno)]
            exact HA.out.1.2.2.1
          have HE := Lib.hid hend
          clear hno hend
          go_wp2_with fail
          go_ret
          exact ⟨ret_int (by rw [HE.out]), iter_below w t _⟩
    · have hnx : ∀ ty, (Instr.next (.pointer (some ⟨w.heap.size, 0, none⟩)) true ty).run Tryd.prog (w.iter t pos) = _ := fun ty => run_next_end w t pos ty hp
      obtain ⟨-, hC, -⟩ := HA.out.1.done hp
      have hend : (flat (P.takeWhile (inC cs))).length = t.size := by
        rw [← HSZ.out]
        have h2 := HA.out.2
        rw [hC] at h2
        have := takeWhile_at (Y := []) h2 (fun y hy => by cases hy)
        rw [List.append_nil] at this
        rw [this]
      have HE := Lib.hid hend
      clear hend hC
      go_wp2_with fail
      rw [Exit.noGoto_ret]
      go_ret
      exact ⟨ret_int (by rw [HE.out]), iter_below w t _⟩
end Go.Proofs.YtbeeeakcjeibgaaDoor
