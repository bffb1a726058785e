/- (types.known).of, types.Of: the type of an expression that may be; of any expression. -/
import Derived.Test.YtjmfpgalepahoaaGreatDoorGT
import Derived.Test.YtjmfpgalepahoaaGreatDoorMTyPartB
import Derived.Test.YtjmfpgalepahoaaGreatDoorMTyPartC
import Derived.Test.YtjmfpgalepahoaaGreatDoorMTyPartD
import Derived.Test.YtjmfpgalepahoaaGreatDoorMTyPartE
import Derived.Test.YtjmfpgalepahoaaGreatDoorMTyPartF
import Derived.Test.YtjmfpgalepahoaaGreatDoorGX
import Derived.Test.YtjmfpgalepahoaaGreatDoorMFitE
import Derived.Test.YtjmfpgalepahoaaGreatDoorGO
import Derived.Test.YtjmfpgalepahoaaGreatDoorGB
import Derived.Test.YtjmfpgalepahoaaGreatDoorMLexRL
import Derived.Test.YtjmfpgalepahoaaGreatDoorGJ
import Derived.Deep.LoopGhost
namespace Go.Proofs.YtjmfpgalepahoaaGreatDoor
open Go.RowKit

/-- What a switch on the operation does, all operations as one: the kids' types lie in a row, if there are any. -/
theorem tpart_any (op : Int) (ts : List Int) (v : Value) (w : World) (B : Nat) (ho : w.ownsRow B 3 1 v ts.length (ts.map fun t => Value.int .i64 t)) (ha : arity op = some ts.length) (h4 : op ≠ 4) :
    Calls Tryz.prog 85 #[.int .i64 op, v] w fun e w' => e = .returned (.int .i64 (partT op ts)) ∧ Below w.heap.size w w' := by
  obtain ⟨ao, cap, rfl, hc, -, hr⟩ := own_slice ho
  have hop : 1 ≤ op ∧ op ≤ 23 := by
    unfold arity at ha
    repeat' split at ha
    all_goals first | omega | cases ha
  have hat : ∀ (j : Nat) t, ts[j]? = some t → ∃ g, ao = some ⟨g, 0, none⟩ ∧ w.cell? ⟨g, j, none⟩ = some (.int .i64 t) := fun j t hj => by
    obtain ⟨g, e, -, hcell⟩ := hr (by have := (List.getElem?_eq_some_iff.1 hj).1; omega)
    exact ⟨g, e, hcell j _ (by rw [List.getElem?_map, hj]; rfl)⟩
  have one : ∀ a, ts = [a] → ∃ g, ao = some ⟨g, 0, none⟩ ∧ w.cell? ⟨g, 0, none⟩ = some (.int .i64 a) := fun a e => hat 0 a (by rw [e]; rfl)
  have two : ∀ a b, ts = [a, b] → ∃ g, ao = some ⟨g, 0, none⟩ ∧ w.cell? ⟨g, 0, none⟩ = some (.int .i64 a) ∧ w.cell? ⟨g, 1, none⟩ = some (.int .i64 b) := fun a b e => by
    obtain ⟨g, h1, h2⟩ := hat 0 a (by rw [e]; rfl)
    obtain ⟨g', h3, h5⟩ := hat 1 b (by rw [e]; rfl)
    rw [h1] at h3
    obtain rfl : g = g' := by simpa using h3
    exact ⟨g, h1, h2, h5⟩
  have three : ∀ a b c, ts = [a, b, c] → ∃ g, ao = some ⟨g, 0, none⟩ ∧ w.cell? ⟨g, 0, none⟩ = some (.int .i64 a) ∧ w.cell? ⟨g, 1, none⟩ = some (.int .i64 b) ∧ w.cell? ⟨g, 2, none⟩ = some (.int .i64 c) := fun a b c e => by
    obtain ⟨g, h1, h2⟩ := hat 0 a (by rw [e]; rfl)
    obtain ⟨g', h3, h5⟩ := hat 1 b (by rw [e]; rfl)
    obtain ⟨g2, h6, h7⟩ := hat 2 c (by rw [e]; rfl)
    rw [h1] at h3 h6
    obtain rfl : g = g' := by simpa using h3
    obtain rfl : g = g2 := by simpa using h6
    exact ⟨g, h1, h2, h5, h7⟩
  clear hat hr ho
  have n0 : ts.length = 0 → ts = [] := List.length_eq_zero_iff.1
  have n1 : ts.length = 1 → ∃ a, ts = [a] := List.length_eq_one_iff.1
  have n2 : ts.length = 2 → ∃ a b, ts = [a, b] := fun h => len_two h
  have n3 : ts.length = 3 → ∃ a b c, ts = [a, b, c] := fun h => by
    match ts, h with
    | [a, b, c], _ => exact ⟨a, b, c, rfl⟩
  have : op = 1 ∨ op = 2 ∨ op = 3 ∨ op = 5 ∨ op = 6 ∨ op = 7 ∨ op = 8 ∨ op = 9 ∨ op = 10 ∨ op = 11 ∨ op = 12 ∨ op = 13 ∨ op = 14 ∨ op = 15 ∨ op = 16 ∨ op = 17 ∨ op = 18 ∨ op = 19 ∨ op = 20 ∨ op = 21 ∨ op = 22 ∨ op = 23 := by omega
  rcases this with rfl | rfl | rfl | rfl | rfl | rfl | rfl | rfl | rfl | rfl | rfl | rfl | rfl | rfl | rfl | rfl | rfl | rfl | rfl | rfl | rfl | rfl
  · have hl : ts.length = 0 := by simpa [arity, eq_comm] using ha
    obtain rfl := n0 hl
    exact tpart_1 w ao cap
  · have hl : ts.length = 0 := by simpa [arity, eq_comm] using ha
    obtain rfl := n0 hl
    exact tpart_2 w ao cap
  · have hl : ts.length = 0 := by simpa [arity, eq_comm] using ha
    obtain rfl := n0 hl
    exact tpart_3 w ao cap
  · have hl : ts.length = 1 := by simpa [arity, eq_comm] using ha
    obtain ⟨a, rfl⟩ := n1 hl
    obtain ⟨g, rfl, c0⟩ := one a rfl
    exact tpart_5 w g cap a c0
  · have hl : ts.length = 1 := by simpa [arity, eq_comm] using ha
    obtain ⟨a, rfl⟩ := n1 hl
    obtain ⟨g, rfl, c0⟩ := one a rfl
    exact tpart_6 w g cap a c0
  · have hl : ts.length = 2 := by simpa [arity, eq_comm] using ha
    obtain ⟨a, b, rfl⟩ := n2 hl
    obtain ⟨g, rfl, c0, c1⟩ := two a b rfl
    exact tpart_7 w g cap a b c0 c1
  · have hl : ts.length = 2 := by simpa [arity, eq_comm] using ha
    obtain ⟨a, b, rfl⟩ := n2 hl
    obtain ⟨g, rfl, c0, c1⟩ := two a b rfl
    exact tpart_8 w g cap a b c0 c1
  · have hl : ts.length = 2 := by simpa [arity, eq_comm] using ha
    obtain ⟨a, b, rfl⟩ := n2 hl
    obtain ⟨g, rfl, c0, c1⟩ := two a b rfl
    exact tpart_9 w g cap a b c0 c1
  · have hl : ts.length = 2 := by simpa [arity, eq_comm] using ha
    obtain ⟨a, b, rfl⟩ := n2 hl
    obtain ⟨g, rfl, c0, c1⟩ := two a b rfl
    exact tpart_10 w g cap a b c0 c1
  · have hl : ts.length = 2 := by simpa [arity, eq_comm] using ha
    obtain ⟨a, b, rfl⟩ := n2 hl
    obtain ⟨g, rfl, c0, c1⟩ := two a b rfl
    exact tpart_11 w g cap a b c0 c1
  · have hl : ts.length = 2 := by simpa [arity, eq_comm] using ha
    obtain ⟨a, b, rfl⟩ := n2 hl
    obtain ⟨g, rfl, c0, c1⟩ := two a b rfl
    exact tpart_12 w g cap a b c0 c1
  · have hl : ts.length = 2 := by simpa [arity, eq_comm] using ha
    obtain ⟨a, b, rfl⟩ := n2 hl
    obtain ⟨g, rfl, c0, c1⟩ := two a b rfl
    exact tpart_13 w g cap a b c0 c1
  · have hl : ts.length = 2 := by simpa [arity, eq_comm] using ha
    obtain ⟨a, b, rfl⟩ := n2 hl
    obtain ⟨g, rfl, c0, c1⟩ := two a b rfl
    exact tpart_14 w g cap a b c0 c1
  · have hl : ts.length = 2 := by simpa [arity, eq_comm] using ha
    obtain ⟨a, b, rfl⟩ := n2 hl
    obtain ⟨g, rfl, c0, c1⟩ := two a b rfl
    exact tpart_15 w g cap a b c0 c1
  · have hl : ts.length = 2 := by simpa [arity, eq_comm] using ha
    obtain ⟨a, b, rfl⟩ := n2 hl
    obtain ⟨g, rfl, c0, c1⟩ := two a b rfl
    exact tpart_16 w g cap a b c0 c1
  · have hl : ts.length = 2 := by simpa [arity, eq_comm] using ha
    obtain ⟨a, b, rfl⟩ := n2 hl
    obtain ⟨g, rfl, c0, c1⟩ := two a b rfl
    exact tpart_17 w g cap a b c0 c1
  · have hl : ts.length = 3 := by simpa [arity, eq_comm] using ha
    obtain ⟨a, b, c, rfl⟩ := n3 hl
    obtain ⟨g, rfl, c0, c1, c2⟩ := three a b c rfl
    exact tpart_18 w g cap a b c c0 c1 c2
  · have hl : ts.length = 1 := by simpa [arity, eq_comm] using ha
    obtain ⟨a, rfl⟩ := n1 hl
    obtain ⟨g, rfl, c0⟩ := one a rfl
    exact tpart_19 w g cap a c0
  · have hl : ts.length = 2 := by simpa [arity, eq_comm] using ha
    obtain ⟨a, b, rfl⟩ := n2 hl
    obtain ⟨g, rfl, c0, c1⟩ := two a b rfl
    exact tpart_20 w g cap a b c0 c1
  · have hl : ts.length = 2 := by simpa [arity, eq_comm] using ha
    obtain ⟨a, b, rfl⟩ := n2 hl
    obtain ⟨g, rfl, c0, c1⟩ := two a b rfl
    exact tpart_21 w g cap a b c0 c1
  · have hl : ts.length = 1 := by simpa [arity, eq_comm] using ha
    obtain ⟨a, rfl⟩ := n1 hl
    obtain ⟨g, rfl, c0⟩ := one a rfl
    exact tpart_22 w g cap a c0
  · have hl : ts.length = 1 := by simpa [arity, eq_comm] using ha
    obtain ⟨a, rfl⟩ := n1 hl
    obtain ⟨g, rfl, c0⟩ := one a rfl
    exact tpart_23 w g cap a c0
/-- A type, or an error, as the two results. -/
abbrev tyV (r : Except Int Int) : Value := .tuple #[.int .i64 (tyN r), .int .i64 (tyF r)]
theorem part_in (op : Int) (ts : List Int) (h : ∀ t ∈ ts, 1 ≤ t ∧ t ≤ 3) : 0 ≤ partT op ts ∧ partT op ts ≤ 3 := by
  have g : ∀ i : Nat, 0 ≤ ts.getD i 0 ∧ ts.getD i 0 ≤ 3 := fun i => by
    rw [List.getD_eq_getElem?_getD]
    cases hi : ts[i]? with
    | none => simp
    | some t => have := h t (List.mem_of_getElem? hi); simp only [Option.getD_some]; omega
  have := g 1
  unfold partT
  dsimp only
  generalize ts.getD 0 0 = a at *
  generalize ts.getD 1 0 = b at *
  generalize ts.getD 2 0 = c at *
  repeat' split
  all_goals omega
mutual
theorem typE_in (N : List ByteArray) (Z : List Int) : ∀ (e : Ex) (t : Int), typE N Z e = .ok t → 1 ≤ t ∧ t ≤ 3
  | .mk op n s ks, t, h => by
    rw [typE] at h
    split at h
    · split at h
      · cases h
      · injection h with h; subst h
        have := findT_in N Z ⟨s.toArray⟩
        omega
    · split at h
      · cases h
      · rename_i ts hts
        split at h
        · cases h
        · injection h with h; subst h
          have := part_in op ts (typL_in N Z ks ts hts)
          omega
theorem typL_in (N : List ByteArray) (Z : List Int) : ∀ (es : List Ex) (ts : List Int), typL N Z es = .ok ts → ∀ t ∈ ts, 1 ≤ t ∧ t ≤ 3
  | [], ts, h => by rw [typL] at h; injection h with h; subst h; simp
  | e :: es, ts, h => by
    rw [typL] at h
    split at h
    · cases h
    · rename_i t ht
      split at h
      · cases h
      · rename_i us hus
        injection h with h; subst h
        intro u hu
        rcases List.mem_cons.1 hu with rfl | hu
        · exact typE_in N Z e _ ht
        · exact typL_in N Z es us hus u hu
end
mutual
theorem typE_bad (N : List ByteArray) (Z : List Int) : ∀ (e : Ex) (x : Int), typE N Z e = .error x → x = 8 ∨ x = 9
  | .mk op n s ks, x, h => by
    rw [typE] at h
    split at h
    · split at h
      · injection h with h; omega
      · cases h
    · split at h
      · rename_i y hy
        injection h with h; subst h
        exact typL_bad N Z ks _ hy
      · split at h
        · injection h with h; omega
        · cases h
theorem typL_bad (N : List ByteArray) (Z : List Int) : ∀ (es : List Ex) (x : Int), typL N Z es = .error x → x = 8 ∨ x = 9
  | [], x, h => by rw [typL] at h; cases h
  | e :: es, x, h => by
    rw [typL] at h
    split at h
    · rename_i y hy
      injection h with h; subst h
      exact typE_bad N Z e _ hy
    · split at h
      · rename_i y hy
        injection h with h; subst h
        exact typL_bad N Z es _ hy
      · cases h
end
theorem int_cell (x : Int) : ∀ u ∈ [Value.int .i64 x], u.oneCell' = true := by
  intro u hu
  simp only [List.mem_singleton] at hu
  subst hu; rfl
/-- While the kids are gone through. -/
def KTy (w wr : World) (v : Value) (N : List ByteArray) (Z : List Int) (j : Nat) (ks : List Ex) : Prop := ∃ ts, typL N Z (ks.take j) = .ok ts ∧ wr.ownsRow w.heap.size 3 1 v j (ts.map fun t => Value.int .i64 t) ∧ Below w.heap.size w wr
set_option maxHeartbeats 4000000 in
set_option maxRecDepth 100000 in
theorem tyof_all (N : List ByteArray) (Z : List Int) (A B : Option Addr) (cA cB : Nat) (lS : N.length ≤ 4611686018427387904) (lZ : Z.length ≤ 4611686018427387904) : ∀ (F : Nat) (e : Ex), nodes e ≤ F → nodes e ≤ 100000 → ∀ (v : Value) (S : Nat → Prop) (w : World), ExIn w S e v → Ts w A N → Is w B Z → allB e = true →
    Calls Tryz.prog 49 #[KV A N.length cA B Z.length cB, v] w fun en w' => en = .returned (tyV (typE N Z e)) ∧ Below w.heap.size w w'
  | 0, e, hF, _, _, _, _, _, _, _, _ => absurd hF (by have := nodes_pos e; omega)
  | F + 1, .mk op n s ks, hF, hN, v, S, w, hv, hS, hZ, ha => by
    have IH := tyof_all N Z A B cA cB lS lZ F
    obtain ⟨har, hp, hh⟩ := part_arity (all_part ha)
    have hkl : allBL ks = true := by rw [allB] at ha; simp only [Bool.and_eq_true] at ha; exact ha.2
    have hnl : nodesL ks + 1 ≤ 100000 := by rw [nodes] at hN; omega
    have hnF : nodesL ks ≤ F := by rw [nodes] at hF; omega
    have hkn := nodesL_len ks
    obtain ⟨ao, cap, rfl, h2, h3, hr, hk⟩ := hv.get
    unfold Ex.op Ex.num Ex.str Ex.kids at *
    dsimp only at *
    obtain ⟨i0, hi, hz0, hz1, hz2⟩ := info_parts (show (Tryz.prog.info? 3).map (fun i => (i.zero, i.size, i.bytes)) = some (some (.int .i64 0), 1, 8) by kernel_rfl)
    have hbK := below_alloc w (.cells #[.slice A N.length cA, .slice B Z.length cB] 83)
    have hk0 : (w.alloc (.cells #[.slice A N.length cA, .slice B Z.length cB] 83)).cell? ⟨w.heap.size, 0, none⟩ = some (.slice A N.length cA) := by rw [cells_of_alloc]; rfl
    have hk1 : (w.alloc (.cells #[.slice A N.length cA, .slice B Z.length cB] 83)).cell? ⟨w.heap.size, 1, none⟩ = some (.slice B Z.length cB) := by rw [cells_of_alloc]; rfl
    have hz := alloc_size w (.cells #[.slice A N.length cA, .slice B Z.length cB] 83)
    obtain ⟨wK, hwK⟩ : ∃ wK, w.alloc (.cells #[.slice A N.length cA, .slice B Z.length cB] 83) = wK := ⟨_, rfl⟩
    rw [hwK] at hbK hk0 hk1 hz
    have hX := four_new wK (.int .i64 op) (.int .i64 n) (.string ⟨s.toArray⟩) (.slice ao ks.length cap) 25
    have hbX := below_alloc wK (.cells #[.int .i64 op, .int .i64 n, .string ⟨s.toArray⟩, .slice ao ks.length cap] 25)
    obtain ⟨wX, hwX⟩ : ∃ wX, wK.alloc (.cells #[.int .i64 op, .int .i64 n, .string ⟨s.toArray⟩, .slice ao ks.length cap] 25) = wX := ⟨_, rfl⟩
    rw [hwX] at hX hbX
    have hBX := below_to hbK hbX
    have hS := hS.below hBX
    have hZ := hZ.below hBX
    have hlK : w.heap.size < wK.heap.size := by omega
    have hk0 : wX.cell? ⟨w.heap.size, 0, none⟩ = some (.slice A N.length cA) := by rw [hbX.cell (p := ⟨w.heap.size, 0, none⟩) hlK]; exact hk0
    have hk1 : wX.cell? ⟨w.heap.size, 1, none⟩ = some (.slice B Z.length cB) := by rw [hbX.cell (p := ⟨w.heap.size, 1, none⟩) hlK]; exact hk1
    have hlX : w.heap.size < wX.heap.size := Nat.lt_of_lt_of_le hlK hbX.size
    have hk : 0 < ks.length → ∃ g o, ao = some ⟨g, o, none⟩ ∧ S g ∧ g < wX.heap.size ∧ RowIn wX S g o ks := fun h => by
      obtain ⟨g, o, a, b, c, d⟩ := hk h
      exact ⟨g, o, a, b, Nat.lt_of_lt_of_le c hBX.size, RowIn.stays (.of hBX) ks g o b c d⟩
    have hX' := hX
    obtain ⟨-, x0, x1, x2, x3, -⟩ := hX'
    by_cases hop : op = 4
    · subst hop
      rw [typE_name]
      have cN := tname_any N Z A B cA cB ⟨s.toArray⟩ wX hS hZ lS lZ
      have HBX := Lib.hid hBX
      generalize findT N Z ⟨s.toArray⟩ = t at *
      obtain ⟨r, hr0⟩ : ∃ r : Except Int Int, (if t = 0 then .error 9 else .ok t) = r := ⟨_, rfl⟩
      rw [hr0]
      have HTV : Hid (tyV r = .tuple #[.int .i64 t, .int .i64 (nameT t)]) := Lib.hid (by
        rw [← hr0]
        unfold nameT
        by_cases h : t = 0
        · rw [h]; rfl
        · rw [if_neg h, if_neg h]; rfl)
      clear hr0
      clear IH hX hv hbX hbK hBX hk har hp hh hkl hi hz
      go_enter Tryz.func49, Tryz.ntmps49
      go_wp2_with fail
      refine cN.mono ?_
      rintro en w1 ⟨rfl, b1⟩
      go_wp2_with fail
      exact bodyPost_ret (v := .tuple #[.int .i64 t, .int .i64 (nameT t)]) (by simp [results, Tryz.results49, go_sem]) rfl ⟨by rw [HTV.out], below_to HBX.out b1⟩
    have q4 : (op == 4) = false := beq_eq_false_iff_ne.2 hop
    obtain ⟨R, hRR⟩ : ∃ R, typE N Z (.mk op n s ks) = R := ⟨_, rfl⟩
    rw [hRR]
    have HR : Hid (KTy wX wX (.slice none 0 0) N Z 0 ks) := Lib.hid ⟨[], by rw [List.take_zero, typL], World.ownsRow_nil _ _ _ _, Below.refl _ _⟩
    have HRR := Lib.hid hRR
    have HBX := Lib.hid hBX
    have HX := Lib.hid hX
    have HS := Lib.hid hS
    have HZ := Lib.hid hZ
    have HK := Lib.hid hk
    have HA := Lib.hid hkl
    have HAR := Lib.hid har
    clear hv hX hbX hBX hk hkl hp hh har hS hZ hbK hRR hz
    go_enter Tryz.func49, Tryz.ntmps49
    go_wp2_with fail
    go_loopg [6, 24] (ks.length) (fun a s6 s24 wr => ∃ (j : Nat), j + a = ks.length ∧ s24 = .int .i64 (j : Int) ∧ Hid (KTy wX wr s6 N Z j ks))
    case atStart => exact ⟨0, by omega, rfl, HR⟩
    case round =>
      obtain ⟨j, hja, rfl, HW⟩ := hrel
      clear HR x0 x1 x2 x3 hwX hwK
      have HJ := Lib.hid hja
      obtain ⟨ts, hts, hown, hB⟩ := HW.out
      have hk0r : wr.cell? ⟨w.heap.size, 0, none⟩ = some (.slice A N.length cA) := by rw [hB.cell (p := ⟨w.heap.size, 0, none⟩) hlX]; exact hk0
      have hk1r : wr.cell? ⟨w.heap.size, 1, none⟩ = some (.slice B Z.length cB) := by rw [hB.cell (p := ⟨w.heap.size, 1, none⟩) hlX]; exact hk1
      have hlr : w.heap.size < wr.heap.size := Nat.lt_of_lt_of_le hlX hB.size
      by_cases hjk : j < ks.length
      · have hjz : (j : Int) < (ks.length : Int) := by omega
        obtain ⟨g, o, rfl, hSg, hg, hrow⟩ := HK.out (by omega)
        have hx : ks[j]? = some ks[j] := List.getElem?_eq_getElem hjk
        have hrow2 := RowIn.stays (.of hB) ks g o hSg hg hrow
        obtain ⟨v0, v1, v2, v3, c0, c1, c2, c3, he⟩ := hrow2.at hx
        obtain ⟨ao2, cap2, hev, -⟩ := he.get
        obtain ⟨rfl, rfl, rfl, rfl⟩ := agg4 hev
        clear hev
        have hgr : g < wr.heap.size := Nat.lt_of_lt_of_le hg hB.size
        have hbA := below_alloc wr (.cells #[.int .i64 ks[j].op, .int .i64 ks[j].num, .string ⟨ks[j].str.toArray⟩, .slice ao2 ks[j].kids.length cap2] 25)
        have hA := four_new wr (.int .i64 ks[j].op) (.int .i64 ks[j].num) (.string ⟨ks[j].str.toArray⟩) (.slice ao2 ks[j].kids.length cap2) 25
        have hbT := hB.alloc hB.size (.cells #[.int .i64 ks[j].op, .int .i64 ks[j].num, .string ⟨ks[j].str.toArray⟩, .slice ao2 ks[j].kids.length cap2] 25)
        have hownA := own_later hown hbA
        have hkn : nodes ks[j] ≤ nodesL ks := nodes_kid (List.getElem_mem hjk)
        have hka : allB ks[j] = true := all_kid HA.out (List.getElem_mem hjk)
        have cI := IH ks[j] (by omega) (by omega) _ S _ (he.later hbA) (HS.out.below hbT) (HZ.out.below hbT) hka
        have HBT := Lib.hid hbT
        have HOA := Lib.hid hownA
        obtain ⟨-, z0, z1, z2, z3, -⟩ := hA
        have htj : ks.take (j + 1) = ks.take j ++ [ks[j]] := by rw [List.take_add_one, hx]; rfl
        have hdj : ks = ks.take j ++ ks[j] :: ks.drop (j + 1) := by
          conv => lhs; rw [← List.take_append_drop j ks, List.drop_eq_getElem_cons hjk]
        have HTJ := Lib.hid htj
        have HDJ := Lib.hid hdj
        have HTS := Lib.hid hts
        cases hte : typE N Z ks[j] with
        | error x =>
          have hxb := typE_bad N Z _ _ hte
          have hxz : (x == 0) = false := beq_eq_false_iff_ne.2 (by omega)
          have HR2 : Hid (R = .error x) := Lib.hid (by
            rw [← HRR.out]
            refine typE_err hop ?_
            rw [HDJ.out]
            exact typL_stop HTS.out hte)
          rw [hte] at cI
          simp only [tyV, tyN, tyF] at cI
          clear HW hrow hrow2 he hbA hbT hB HK hja hx IH hown hownA hka hkn htj hdj hts hte hxb
          go_wp2_with fail
          refine cI.mono ?_
          rintro en w2 ⟨rfl, b2⟩
          clear cI
          go_wp2_with fail
          exact bodyPost_ret (v := .tuple #[.int .i64 0, .int .i64 x]) (by simp [results, Tryz.results49, go_sem]) rfl ⟨by rw [HR2.out]; rfl, below_to HBX.out (below_to HBT.out b2)⟩
        | ok t =>
          have HTE := Lib.hid hte
          rw [hte] at cI
          simp only [tyV, tyN, tyF] at cI
          clear HW hrow hrow2 he hbA hbT hB HK hja hx IH hown hownA hka hkn htj hdj hts hte
          go_wp2_with fail
          refine cI.mono ?_
          rintro en w2 ⟨rfl, b2⟩
          have hown2 := own_later HOA.out b2
          have hb2 := below_to HBT.out b2
          have hb3 := hb2.alloc hb2.size (.cells #[.int .i64 t] 3)
          have hown3 := own_later hown2 (below_alloc w2 (.cells #[.int .i64 t] 3))
          have hlw := hb2.size
          have HB3 := Lib.hid hb3
          have HO3 := Lib.hid hown3
          clear cI b2 hown2 hb2 hb3 hown3 HBT HOA c0 c1 c2 c3 z0 z1 z2 z3 hk0r hk1r
          go_wp2_with (at_builtin; refine wpList_append_own _ rfl _ _ 37 rfl wX.heap.size 3 i0 _ 1 8 Tryz.underlying37 hi hz0 hz1 hz2 rfl (by decide) _ _ _ rfl HO3.out ⟨w2.heap.size, 0, none⟩ 1 1 [.int .i64 t] rfl rfl (one_news _ _ _) (int_cell _) ?c3 ?c4 ?c5 ?_)
          case c3 => unfold maxLen; omega
          case c4 => omega
          case c5 => rw [alloc_size]; omega
          intro v' w4 hown' hgrow hnil
          have hW4 : KTy wX w4 v' N Z (j + 1) ks := by
            refine ⟨ts ++ [t], ?_, by rw [List.map_append]; exact hown', below_grown HB3.out (Nat.le_refl _) hgrow (fun b hb => (own_blk HO3.out b hb).1)⟩
            rw [HTJ.out]
            exact typL_snoc HTS.out HTE.out
          have HW4 := Lib.hid hW4
          clear hown' hgrow hnil hW4 HB3 HO3
          go_wp2_with fail
          go_roundg (ks.length - (j + 1))
          case measure => have := HJ.out; omega
          case rel => exact ⟨j + 1, by have := HJ.out; omega, by go_num, HW4⟩
      · have hjz : ¬ (j : Int) < (ks.length : Int) := by omega
        have hj : j = ks.length := by have := HJ.out; omega
        subst hj
        rw [List.take_length] at hts
        have hlen := typL_len hts
        have har := HAR.out
        rw [← hlen] at har
        obtain ⟨-, x0, x1, x2, x3, -⟩ := HX.out.later hB
        have HB := Lib.hid (below_to HBX.out hB)
        rw [← hlen] at hown
        have cP := tpart_any op ts _ wr _ hown har hop
        have hR := HRR.out
        rw [typE_kids hop hts] at hR
        generalize partT op ts = t at *
        have HR2 := Lib.hid hR
        obtain ⟨ao3, cap3, rfl, -⟩ := own_slice hown
        clear HW HJ hja IH HK hown hi hz0 hz1 hz2 HX hts har hR HRR hk0 hk1 hk0r hk1r hlen
        by_cases ht : t = 0
        · subst ht
          go_wp2_with fail
          refine cP.mono ?_
          rintro en w2 ⟨rfl, b2⟩
          go_wp2_with fail
          exact bodyPost_ret (v := .tuple #[.int .i64 0, .int .i64 8]) (by simp [results, Tryz.results49, go_sem]) rfl ⟨by rw [← HR2.out]; rfl, below_to HB.out b2⟩
        · have htz : (t == 0) = false := beq_eq_false_iff_ne.2 ht
          go_wp2_with fail
          refine cP.mono ?_
          rintro en w2 ⟨rfl, b2⟩
          go_wp2_with fail
          exact bodyPost_ret (v := .tuple #[.int .i64 t, .int .i64 0]) (by simp [results, Tryz.results49, go_sem]) rfl ⟨by rw [← HR2.out, if_neg ht]; rfl, below_to HB.out b2⟩
set_option maxHeartbeats 2000000 in
set_option maxRecDepth 100000 in
/-- types.Of. -/
theorem types_any (N : List ByteArray) (Z : List Int) (A B : Option Addr) (cA cB : Nat) (lS : N.length ≤ 4611686018427387904) (lZ : Z.length ≤ 4611686018427387904) (e : Ex) (v : Value) (S : Nat → Prop) (w : World) (hE : EnvP w) (hv : ExIn w S e v) (hS : Ts w A N) (hZ : Is w B Z) :
    Calls Tryz.prog 23 #[v, .slice A N.length cA, .slice B Z.length cB] w fun en w' => en = .returned (tyV (ofE N Z e)) ∧ Below w.heap.size w w' := by
  obtain ⟨ao, cap, rfl, h2, h3, hr, hk⟩ := hv.get
  have hX := four_new w (.int .i64 e.op) (.int .i64 e.num) (.string ⟨e.str.toArray⟩) (.slice ao e.kids.length cap) 25
  have hbX := below_alloc w (.cells #[.int .i64 e.op, .int .i64 e.num, .string ⟨e.str.toArray⟩, .slice ao e.kids.length cap] 25)
  have hEX := hE.later hbX
  have hvX := hv.later hbX
  have hSX := hS.below hbX
  have hZX := hZ.below hbX
  have c := pcheck_any e _ S _ hEX hvX
  obtain ⟨wX, hwX⟩ : ∃ wX, w.alloc (.cells #[.int .i64 e.op, .int .i64 e.num, .string ⟨e.str.toArray⟩, .slice ao e.kids.length cap] 25) = wX := ⟨_, rfl⟩
  rw [hwX] at hX hbX c hEX hvX hSX hZX
  have hX' := hX
  obtain ⟨-, x0, x1, x2, x3, -⟩ := hX
  unfold ofE
  cases hc : chkB e with
  | false =>
    rw [hc] at c
    clear hk hv hX' hEX hvX
    go_enter Tryz.func23, Tryz.ntmps23
    go_wp2_with fail
    refine c.mono ?_
    rintro en w1 ⟨rfl, b1⟩
    go_wp2_with fail
    exact bodyPost_ret (v := .tuple #[.int .i64 0, .int .i64 6]) (by simp [results, Tryz.results23, go_sem]) rfl ⟨rfl, below_to hbX b1⟩
  | true =>
    rw [hc] at c
    unfold chkB at hc
    simp only [Bool.and_eq_true, decide_eq_true_eq] at hc
    have cT := fun w1 (b : Below wX.heap.size wX w1) => tyof_all N Z A B cA cB lS lZ (nodes e) e (Nat.le_refl _) (by omega) _ S w1 (hvX.later b) (hSX.below b) (hZX.below b) hc.2
    obtain ⟨t, ht⟩ : ∃ t, tyN (typE N Z e) = t := ⟨_, rfl⟩
    obtain ⟨f, hf⟩ : ∃ f, tyF (typE N Z e) = f := ⟨_, rfl⟩
    have HT := Lib.hid ht
    have HF := Lib.hid hf
    simp only [tyV, ht, hf] at cT
    clear hk hv hEX hvX ht hf
    go_enter Tryz.func23, Tryz.ntmps23
    go_wp2_with fail
    refine c.mono ?_
    rintro en w1 ⟨rfl, b1⟩
    have c2 := cT w1 b1
    obtain ⟨-, y0, y1, y2, y3, -⟩ := hX'.later b1
    clear c cT x0 x1 x2 x3 hwX
    go_wp2_with fail
    refine c2.mono ?_
    rintro en w2 ⟨rfl, b2⟩
    go_wp2_with fail
    exact bodyPost_ret (v := .tuple #[.int .i64 t, .int .i64 f]) (by simp [results, Tryz.results23, go_sem]) rfl ⟨by unfold tyV; rw [HT.out, HF.out], below_to (below_to hbX b1) b2⟩
end Go.Proofs.YtjmfpgalepahoaaGreatDoor
