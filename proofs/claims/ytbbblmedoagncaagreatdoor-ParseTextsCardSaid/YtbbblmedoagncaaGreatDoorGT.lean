/- Several texts in one: TyM, TyName. -/
import Derived.Test.YtbbblmedoagncaaGreatDoorGG
import Derived.Test.YtbbblmedoagncaaGreatDoorGJ
import Derived.Test.YtbbblmedoagncaaGreatDoorGB
import Derived.Deep.LoopGhost
import Derived.WalkMore
namespace Go.Proofs.YtbbblmedoagncaaGreatDoor
/- Plain mathematics: the type of an expression, by what its names hold. No program stands in this text. -/
section

/-- The type of the first one of that name; 0: none of the three. -/
def findT : List ByteArray → List Int → ByteArray → Int
  | [], _, _ => 0
  | _ :: _, [], _ => 0
  | n :: ns, z :: zs, s => if n = s then (if 1 ≤ z ∧ z ≤ 3 then z else 0) else findT ns zs s
/-- What an operation of such kids is; 0: of none such. -/
def partT (op : Int) (ts : List Int) : Int :=
  let a := ts.getD 0 0
  let b := ts.getD 1 0
  let c := ts.getD 2 0
  if op = 1 then 1
  else if op = 2 then 3
  else if op = 3 then 2
  else if op = 5 then (if a = 1 then 1 else 0)
  else if op = 6 then (if a = 2 then 2 else 0)
  else if 7 ≤ op ∧ op ≤ 11 then (if b = 1 ∧ a = 1 then 1 else 0)
  else if op = 12 ∨ op = 13 then (if a = b then 2 else 0)
  else if op = 14 ∨ op = 15 then (if a ≠ 2 ∧ a = b then 2 else 0)
  else if op = 16 ∨ op = 17 then (if b = 2 ∧ a = 2 then 2 else 0)
  else if op = 18 then (if a = 2 ∧ b = c then b else 0)
  else if op = 19 then (if a = 3 then 1 else 0)
  else if op = 20 then (if b = 3 ∧ a = 3 then 3 else 0)
  else if op = 21 then (if b = 1 ∧ a = 3 then 3 else 0)
  else if op = 22 then 2
  else if op = 23 then (if a = 3 then 3 else 0)
  else 0
mutual
/-- The type, or the error. -/
def typE (N : List ByteArray) (Z : List Int) : Ex → Except Int Int
  | .mk op _ s ks =>
    if op = 4 then (if findT N Z ⟨s.toArray⟩ = 0 then .error 9 else .ok (findT N Z ⟨s.toArray⟩))
    else match typL N Z ks with
    | .error e => .error e
    | .ok ts => if partT op ts = 0 then .error 8 else .ok (partT op ts)
def typL (N : List ByteArray) (Z : List Int) : List Ex → Except Int (List Int)
  | [] => .ok []
  | e :: es => match typE N Z e with
    | .error x => .error x
    | .ok t => match typL N Z es with
      | .error x => .error x
      | .ok ts => .ok (t :: ts)
end
/-- Of any expression. -/
def ofE (N : List ByteArray) (Z : List Int) (e : Ex) : Except Int Int := if chkB e then typE N Z e else .error 6
def tyN : Except Int Int → Int
  | .error _ => 0
  | .ok t => t
def tyF : Except Int Int → Int
  | .error e => e
  | .ok _ => 0
theorem findT_in (N : List ByteArray) (Z : List Int) (s : ByteArray) : 0 ≤ findT N Z s ∧ findT N Z s ≤ 3 := by
  induction N generalizing Z with
  | nil => rw [findT]; omega
  | cons n ns ih =>
    cases Z with
    | nil => rw [findT]; omega
    | cons z zs =>
      rw [findT]
      split
      · split <;> omega
      · exact ih zs
theorem typL_len {N : List ByteArray} {Z : List Int} : ∀ {es : List Ex} {ts : List Int}, typL N Z es = .ok ts → ts.length = es.length
  | [], ts, h => by rw [typL] at h; injection h with h; subst h; rfl
  | e :: es, ts, h => by
    rw [typL] at h
    cases he : typE N Z e with
    | error x => rw [he] at h; cases h
    | ok t =>
      rw [he] at h
      dsimp only at h
      cases hs : typL N Z es with
      | error x => rw [hs] at h; cases h
      | ok us => rw [hs] at h; injection h with h; subst h; simp [typL_len hs]
/-- A beginning of the list that has types, and the next one. -/
theorem typL_snoc {N : List ByteArray} {Z : List Int} {e : Ex} : ∀ {es : List Ex} {ts : List Int} {t : Int}, typL N Z es = .ok ts → typE N Z e = .ok t → typL N Z (es ++ [e]) = .ok (ts ++ [t])
  | [], ts, t, h, he => by rw [typL] at h; injection h with h; subst h; rw [List.nil_append, typL, he, typL]; rfl
  | x :: es, ts, t, h, he => by
    rw [typL] at h
    cases hx : typE N Z x with
    | error q => rw [hx] at h; cases h
    | ok u =>
      rw [hx] at h
      dsimp only at h
      cases hs : typL N Z es with
      | error q => rw [hs] at h; cases h
      | ok us =>
        rw [hs] at h; injection h with h; subst h
        rw [List.cons_append, typL, hx]
        dsimp only
        rw [typL_snoc hs he]
        rfl
theorem typL_stop {N : List ByteArray} {Z : List Int} {e : Ex} {x : Int} {q : List Ex} : ∀ {es : List Ex} {ts : List Int}, typL N Z es = .ok ts → typE N Z e = .error x → typL N Z (es ++ e :: q) = .error x
  | [], ts, h, he => by rw [List.nil_append, typL, he]
  | y :: es, ts, h, he => by
    rw [typL] at h
    cases hx : typE N Z y with
    | error q => rw [hx] at h; cases h
    | ok u =>
      rw [hx] at h
      dsimp only at h
      cases hs : typL N Z es with
      | error q => rw [hs] at h; cases h
      | ok us =>
        rw [List.cons_append, typL, hx]
        dsimp only
        rw [typL_stop hs he]
theorem typE_kids {N : List ByteArray} {Z : List Int} {op n : Int} {s : List UInt8} {ks : List Ex} {ts : List Int} (h4 : op ≠ 4) (h : typL N Z ks = .ok ts) : typE N Z (.mk op n s ks) = if partT op ts = 0 then .error 8 else .ok (partT op ts) := by
  rw [typE, if_neg h4, h]
theorem typE_err {N : List ByteArray} {Z : List Int} {op n : Int} {s : List UInt8} {ks : List Ex} {x : Int} (h4 : op ≠ 4) (h : typL N Z ks = .error x) : typE N Z (.mk op n s ks) = .error x := by
  rw [typE, if_neg h4, h]
theorem typE_name {N : List ByteArray} {Z : List Int} {n : Int} {s : List UInt8} {ks : List Ex} : typE N Z (.mk 4 n s ks) = if findT N Z ⟨s.toArray⟩ = 0 then .error 9 else .ok (findT N Z ⟨s.toArray⟩) := by
  rw [typE, if_pos rfl]
end
/- (types.known).name: the type of a name. -/
section
open Go.RowKit

theorem nodesL_len (es : List Ex) : es.length ≤ nodesL es := by
  induction es with
  | nil => simp [nodesL]
  | cons e es ih => rw [nodesL, List.length_cons]; have := nodes_pos e; omega
/-- Names and types, as the program holds them. -/
abbrev KV (A : Option Addr) (l c : Nat) (B : Option Addr) (m d : Nat) : Value := .agg #[.slice A l c, .slice B m d]
theorem findT_nil (N : List ByteArray) (s : ByteArray) : findT N [] s = 0 := by cases N <;> rfl
theorem findT_at {N : List ByteArray} {Z : List Int} {k : Nat} {n s : ByteArray} {z : Int} (hn : N[k]? = some n) (hz : Z[k]? = some z) : findT (N.drop k) (Z.drop k) s = if n = s then (if 1 ≤ z ∧ z ≤ 3 then z else 0) else findT (N.drop (k + 1)) (Z.drop (k + 1)) s := by
  obtain ⟨h1, rfl⟩ := List.getElem?_eq_some_iff.1 hn
  obtain ⟨h2, rfl⟩ := List.getElem?_eq_some_iff.1 hz
  rw [List.drop_eq_getElem_cons h1, List.drop_eq_getElem_cons h2, findT]
theorem findT_end {N : List ByteArray} {Z : List Int} {k : Nat} {s : ByteArray} (h : N.length ≤ k ∨ Z.length ≤ k) : findT (N.drop k) (Z.drop k) s = 0 := by
  rcases h with h | h
  · rw [List.drop_of_length_le h]; rfl
  · rw [List.drop_of_length_le h, findT_nil]
/-- The two of a name's answer. -/
def nameT (t : Int) : Int := if t = 0 then 9 else 0
/-- While the names are gone through. -/
structure KNm (w : World) (S : List ByteArray) (Z : List Int) (A B : Option Addr) (cA cB : Nat) (s : ByteArray) (F : Int) (k : Nat) (wr : World) : Prop where
  base : Below w.heap.size w wr
  c0 : wr.cell? ⟨w.heap.size, 0, none⟩ = some (.slice A S.length cA)
  c1 : wr.cell? ⟨w.heap.size, 1, none⟩ = some (.slice B Z.length cB)
  lt : w.heap.size < wr.heap.size
  left : F = findT (S.drop k) (Z.drop k) s
  le : k ≤ Z.length
set_option maxHeartbeats 2000000 in
set_option maxRecDepth 100000 in
theorem tname_any (S : List ByteArray) (Z : List Int) (A B : Option Addr) (cA cB : Nat) (s : ByteArray) (w : World) (hS : Ts w A S) (hZ : Is w B Z) (lS : S.length ≤ 4611686018427387904) (lZ : Z.length ≤ 4611686018427387904) :
    Calls Tryz.prog 297 #[KV A S.length cA B Z.length cB, .string s] w fun e w' => e = .returned (.tuple #[.int .i64 (findT S Z s), .int .i64 (nameT (findT S Z s))]) ∧ Below w.heap.size w w' := by
  generalize hF : findT S Z s = F
  have hb1 := below_alloc w (.cells #[.slice A S.length cA, .slice B Z.length cB] 268)
  have hk0 : (w.alloc (.cells #[.slice A S.length cA, .slice B Z.length cB] 268)).cell? ⟨w.heap.size, 0, none⟩ = some (.slice A S.length cA) := by rw [cells_of_alloc]; rfl
  have hk1 : (w.alloc (.cells #[.slice A S.length cA, .slice B Z.length cB] 268)).cell? ⟨w.heap.size, 1, none⟩ = some (.slice B Z.length cB) := by rw [cells_of_alloc]; rfl
  have HR : Hid (KNm w S Z A B cA cB s F 0 (w.alloc (.cells #[.slice A S.length cA, .slice B Z.length cB] 268))) := Lib.hid ⟨hb1, hk0, hk1, by rw [alloc_size]; omega, by rw [← hF]; simp, Nat.zero_le _⟩
  have HS := Lib.hid hS
  have HZ := Lib.hid hZ
  clear hb1 hS hZ
  go_enter Tryz.func297, Tryz.ntmps297
  go_wp2_with fail
  go_step3
  go_wp2_with fail
  go_step3
  go_wp2_with fail
  go_loopg [6, 12] (S.length) (fun n s6 s12 wr => ∃ k : Nat, k + n = S.length ∧ s12 = .int .i64 (k : Int) ∧ s6 = .int .i64 0 ∧ Hid (KNm w S Z A B cA cB s F k wr))
  case atStart => exact ⟨0, by omega, rfl, rfl, HR⟩
  case round =>
    obtain ⟨k, hkn, rfl, rfl, HW⟩ := hrel
    clear HR
    have HKN := Lib.hid hkn
    by_cases hk : k < S.length
    · have hkz : (k : Int) < (S.length : Int) := by omega
      obtain ⟨hb, k0, k1, hl, hleft, hle⟩ := HW.out
      obtain ⟨ba, oa, rfl, hca⟩ := (HS.out.below hb) (by omega)
      have hcell := hca k hk
      obtain ⟨nm, hnm⟩ : ∃ nm, S[k]? = some nm := ⟨_, List.getElem?_eq_getElem hk⟩
      rw [List.getD_eq_getElem?_getD, hnm] at hcell
      have hcell2 : wr.cell? ⟨ba, oa + k, none⟩ = some (.string nm) := hcell
      have HB := Lib.hid hb
      have HL := Lib.hid hleft
      clear hca hcell hkn hb hleft
      by_cases he : k = Z.length
      · have hez : ((k : Int) == (Z.length : Int)) = true := by rw [he]; simp
        have h0 : F = 0 := by rw [HL.out]; exact findT_end (.inr (by omega))
        have H0 := Lib.hid h0
        clear he h0
        go_wp2_with fail
        first | rw [Exit.noGoto_ret] | skip
        exact bodyPost_ret (v := .tuple #[.int .i64 0, .int .i64 9]) (by simp [results, Tryz.results297, go_sem]) rfl ⟨by rw [H0.out]; rfl, HB.out⟩
      · have hez : ((k : Int) == (Z.length : Int)) = false := beq_eq_false_iff_ne.2 (by omega)
        have hkZ : k < Z.length := by omega
        obtain ⟨z, hz⟩ : ∃ z, Z[k]? = some z := ⟨_, List.getElem?_eq_getElem hkZ⟩
        have hst := findT_at (s := s) hnm hz
        rw [← HL.out] at hst
        have HST := Lib.hid hst
        clear hst he
        by_cases hn : nm = s
        · subst hn
          have hnn : (nm.toList == nm.toList) = true := by simp
          obtain ⟨bb, ob, rfl, hcb⟩ := (HZ.out.below HB.out) (by omega)
          have hcz := hcb k hkZ
          rw [List.getD_eq_getElem?_getD, hz] at hcz
          have hcz2 : wr.cell? ⟨bb, ob + k, none⟩ = some (.int .i64 z) := hcz
          have hkZz : (k : Int) < (Z.length : Int) := by omega
          have ht : F = if 1 ≤ z ∧ z ≤ 3 then z else 0 := by rw [HST.out, if_pos rfl]
          have HT := Lib.hid ht
          clear hcb hcz ht
          by_cases h1 : z = 1
          · subst h1
            go_wp2_with fail
            first | rw [Exit.noGoto_ret] | skip
            exact bodyPost_ret (v := .tuple #[.int .i64 1, .int .i64 0]) (by simp [results, Tryz.results297, go_sem]) rfl ⟨by rw [HT.out]; rfl, HB.out⟩
          by_cases h2 : z = 2
          · subst h2
            go_wp2_with fail
            first | rw [Exit.noGoto_ret] | skip
            exact bodyPost_ret (v := .tuple #[.int .i64 2, .int .i64 0]) (by simp [results, Tryz.results297, go_sem]) rfl ⟨by rw [HT.out]; rfl, HB.out⟩
          by_cases h3 : z = 3
          · subst h3
            go_wp2_with fail
            first | rw [Exit.noGoto_ret] | skip
            exact bodyPost_ret (v := .tuple #[.int .i64 3, .int .i64 0]) (by simp [results, Tryz.results297, go_sem]) rfl ⟨by rw [HT.out]; rfl, HB.out⟩
          have b1 : (z == 1) = false := beq_eq_false_iff_ne.2 h1
          have b2 : (z == 2) = false := beq_eq_false_iff_ne.2 h2
          have b3 : (z == 3) = false := beq_eq_false_iff_ne.2 h3
          have H0 : Hid (F = 0) := Lib.hid (by rw [HT.out, if_neg (by omega)])
          go_wp2_with fail
          first | rw [Exit.noGoto_ret] | skip
          exact bodyPost_ret (v := .tuple #[.int .i64 0, .int .i64 9]) (by simp [results, Tryz.results297, go_sem]) rfl ⟨by rw [H0.out]; rfl, HB.out⟩
        · have hnn : (nm.toList == s.toList) = false := txt_ne hn
          go_wp2_with fail
          go_roundg (S.length - (k + 1))
          case measure => have := HKN.out; omega
          case rel => exact ⟨k + 1, by have := HKN.out; omega, by go_num, rfl, Lib.hid ⟨HB.out, k0, k1, hl, by rw [HST.out, if_neg hn], by omega⟩⟩
    · have hkz : ¬ (k : Int) < (S.length : Int) := by omega
      obtain ⟨hb, k0, k1, hl, hleft, hle⟩ := HW.out
      have h0 : F = 0 := by rw [hleft]; exact findT_end (.inl (by omega))
      have H0 := Lib.hid h0
      have HB := Lib.hid hb
      clear h0 hleft hb hkn
      go_wp2_with fail
      first | rw [Exit.noGoto_ret] | skip
      exact bodyPost_ret (v := .tuple #[.int .i64 0, .int .i64 9]) (by simp [results, Tryz.results297, go_sem]) rfl ⟨by rw [H0.out]; rfl, HB.out⟩
end
end Go.Proofs.YtbbblmedoagncaaGreatDoor
