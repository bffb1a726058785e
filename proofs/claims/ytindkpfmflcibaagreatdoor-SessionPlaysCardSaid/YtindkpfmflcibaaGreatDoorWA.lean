/- Several texts in one: Onto, WireMath, WireSmall, PutInt, RefInt, Puts, VPut. -/
import Derived.Test.YtindkpfmflcibaaGreatDoorGB
import Derived.Test.YtindkpfmflcibaaGreatDoorGE
import Derived.ArgAppend
import Derived.Deep.AppendSrc
import Derived.WalkKit
import Derived.Laws.BitsAllLaws
import Derived.Outline
import Derived.Deep.Onto
namespace Go.Proofs.YtindkpfmflcibaaGreatDoor
/- Bytes appended onto a slice without room ('b[:n:n]'), or onto a row of the call's own: one law for both. -/
section
open Go.RowKit

/-- A slice without room, or a row of the call's own: what is appended goes to memory of the call's own. -/
def Onto (B : Nat) (w : World) (v : Value) (L : List UInt8) : Prop :=
  (∃ A, v = .slice A L.length L.length ∧ Bs w A L) ∨ w.ownsRow B 5 1 v L.length (Lib.byteCells L)
theorem Onto.of_own {B : Nat} {w : World} {v : Value} {L : List UInt8} (h : w.ownsRow B 5 1 v L.length (Lib.byteCells L)) : Onto B w v L := .inr h
theorem Onto.of_full {B : Nat} {w : World} {A : Option Addr} {L : List UInt8} (h : Bs w A L) : Onto B w (.slice A L.length L.length) L := .inl ⟨A, rfl, h⟩
theorem Onto.nil (B : Nat) (w : World) : Onto B w (.slice none 0 0) [] := .inr (World.ownsRow_nil _ _ _ _)
theorem Onto.alloc {B : Nat} {w : World} {v : Value} {L : List UInt8} (h : Onto B w v L) (o : Obj) : Onto B (w.alloc o) v L := by
  rcases h with ⟨A, e, h⟩ | h
  · exact .inl ⟨A, e, h.below ((Below.refl _ _).alloc (Nat.le_refl _) _)⟩
  · exact .inr (h.alloc _)

theorem below_own {B : Nat} {w w' : World} {e : TypeId} {n : Nat} {v : Value} {xs : List Value} (h : w.ownsRow B e 1 v n xs) (hg : w.grownBy w' v.ownBlock) (hB : B ≤ w.heap.size) : Below B w w' := by
  refine (Below.refl _ _).grown hg hB fun k hk => ?_
  rcases h.2 with ⟨rfl, _⟩ | ⟨g, cap, cur, rfl, hbg, _⟩
  · cases hk
  · injection hk with hk; subst hk; exact hbg

theorem run_append_onto (w : World) (ty : TypeId) (B : Nat) (v : Value) (L M : List UInt8) (ho : Onto B w v L) (a : Addr) (c : Nat) (hM : Bs w (some a) M) (hm : 1 ≤ M.length) (hlen : L.length + M.length ≤ 140737488355328) (hB : B ≤ w.heap.size) :
    ∃ v' w', (Builtin.append_ #[35, 35] ty #[v, .slice (some a) M.length c]).run Tryz.prog w = .ok v' w' ∧ w'.ownsRow B 5 1 v' (L ++ M).length (Lib.byteCells (L ++ M)) ∧ Below B w w' := by
  obtain ⟨i0, hi, hz0, hz1, hz2⟩ := info_parts (show (Tryz.prog.info? 5).map (fun i => (i.zero, i.size, i.bytes)) = some (some (.int .u8 0), 1, 1) by kernel_rfl)
  have hcs : Lib.byteCells L ++ Lib.byteCells M = Lib.byteCells (L ++ M) := by unfold Lib.byteCells; rw [List.map_append]
  have own_arm : ∀ v, w.ownsRow B 5 1 v L.length (Lib.byteCells L) → ∃ v' w', (Builtin.append_ #[35, 35] ty #[v, .slice (some a) M.length c]).run Tryz.prog w = .ok v' w' ∧ w'.ownsRow B 5 1 v' (L ++ M).length (Lib.byteCells (L ++ M)) ∧ Below B w w' := by
    intro v h
    obtain ⟨v', w', hr, h2, h3, _⟩ := run_append_own (P := Tryz.prog) w B 35 ty 5 i0 _ 1 1 Tryz.underlying35 hi hz0 hz1 hz2 rfl (by decide) v L.length (Lib.byteCells L) h a M.length c (Lib.byteCells M) (by rw [Lib.byteCells_length]; omega) (bs_cells hM) (bytes_one M) (by unfold maxLen; omega) (by omega) hB
    rw [hcs, ← List.length_append] at h2
    exact ⟨v', w', hr, h2, below_own h h3 hB⟩
  rcases ho with ⟨A, rfl, hL⟩ | h
  · cases A with
    | none =>
      have h0 : L = [] := by
        cases L with
        | nil => rfl
        | cons c L => obtain ⟨b, off, e, _⟩ := hL (by simp); cases e
      subst h0
      exact own_arm _ (World.ownsRow_nil _ _ _ _)
    | some ad =>
      obtain ⟨v', w', hr, h2, h3⟩ := run_append_arg_grows (P := Tryz.prog) w 35 ty 5 i0 _ 1 1 Tryz.underlying35 hi hz0 hz1 hz2 rfl (by decide) ad L.length L.length (Lib.byteCells L) (by rw [Lib.byteCells_length]; omega) (bs_cells hL) a M.length c (Lib.byteCells M) (by rw [Lib.byteCells_length]; omega) (bs_cells hM) (by omega) (by unfold maxLen; omega) (by omega)
      rw [hcs, ← List.length_append] at h2
      refine ⟨v', w', hr, ⟨h2.1, ?_⟩, ⟨h3.os, h3.tape, h3.output, h3.size, fun k hk => h3.block k (by omega) (by simp)⟩⟩
      rcases h2.2 with h4 | ⟨g, cap, cur, e1, e2, rest⟩
      · exact .inl h4
      · exact .inr ⟨g, cap, cur, e1, by omega, rest⟩
  · exact own_arm v h

theorem wpList_append_onto {w : World} {ops : Array Oper} {rest : List Oper} {o : Oper} {a : Act} {Q : Exit → Act → World → Prop} (hgd : o.guard = none) (s x : Operand)
    (hop : o.op = .call { callee := .builtin .append, args := #[s, x], argTypes := #[35, 35] }) (B : Nat) (v : Value) (L M : List UInt8) (hs : a.eval s = v) (ho : Onto B w v L)
    (ad : Addr) (c : Nat) (hx : a.eval x = .slice (some ad) M.length c) (hM : Bs w (some ad) M) (hm : 1 ≤ M.length) (hlen : L.length + M.length ≤ 140737488355328) (hB : B ≤ w.heap.size)
    (h : ∀ v' w', w'.ownsRow B 5 1 v' (L ++ M).length (Lib.byteCells (L ++ M)) → Below B w w' → wpList Tryz.prog ops Q rest (a.put o.dst v') w') : wpList Tryz.prog ops Q (o :: rest) a w := by
  refine wpList_plain hgd fun K hK => ?_
  obtain ⟨v', w', hr, h2, h3⟩ := run_append_onto w o.type B v L M ho ad c hM hm hlen hB
  unfold Oper.wp
  simp [execOp, hop, resolve, invoke, builtin, hs, hx, hr, Result.andThen]
  exact hK _ _ (h v' w' h2 h3)

/-- Onto a row of the call's own that holds something: whatever yields cells (a text, too). -/
theorem run_append_own_src (w : World) (tx ty : TypeId) (B : Nat) (v : Value) (L M : List UInt8) (h : w.ownsRow B 5 1 v L.length (Lib.byteCells L)) (h0 : 1 ≤ L.length) (x : Value) (hx : Src Tryz.prog 1 tx x M.length (Lib.byteCells M) w) (hlen : L.length + M.length ≤ 140737488355328) (hB : B ≤ w.heap.size) :
    ∃ v' w', (Builtin.append_ #[35, tx] ty #[v, x]).run Tryz.prog w = .ok v' w' ∧ w'.ownsRow B 5 1 v' (L ++ M).length (Lib.byteCells (L ++ M)) ∧ Below B w w' := by
  obtain ⟨i0, hi, hz0, hz1, hz2⟩ := info_parts (show (Tryz.prog.info? 5).map (fun i => (i.zero, i.size, i.bytes)) = some (some (.int .u8 0), 1, 1) by kernel_rfl)
  have ht := Tryz.underlying35
  have hcs : Lib.byteCells L ++ Lib.byteCells M = Lib.byteCells (L ++ M) := by unfold Lib.byteCells; rw [List.map_append]
  have hll : (L ++ M).length = L.length + M.length := List.length_append
  have hbl : (Lib.byteCells (L ++ M)).length = L.length + M.length := by rw [Lib.byteCells_length, hll]
  have hx1 : Src Tryz.prog i0.size tx x M.length (Lib.byteCells M) w := by rw [hz1]; exact hx
  rcases h.2 with ⟨_, e⟩ | ⟨g, cap, cur, rfl, hbg, hg, hnc, hcm, hcz, htake⟩
  · omega
  · rw [Nat.mul_one] at hcz htake
    have hcl := Lib.byteCells_length L
    have hml := Lib.byteCells_length M
    by_cases hroom : L.length + M.length ≤ cap
    · have hfit : L.length * 1 + (Lib.byteCells M).length ≤ cur.size := by omega
      have hst := run_storeCells_at Tryz.prog g (L.length * 1) 5 (Lib.byteCells M) 0 cur w hg (by simpa using hfit) (bytes_one M)
      simp only [Nat.add_zero, Nat.mul_one] at hst
      have hr : (Builtin.append_ #[35, tx] ty #[.slice (some ⟨g, 0, none⟩) L.length cap, x]).run Tryz.prog w =
          .ok (.slice (some ⟨g, 0, none⟩) (L.length + M.length) cap) (w.setRow g (cur.toList.take L.length ++ Lib.byteCells M ++ cur.toList.drop (L.length + (Lib.byteCells M).length)).toArray) := by
        have hx2 := hx1.cells
        rw [hz1] at hx2
        rcases hx.kind with ⟨e', hk⟩ | hk <;> simp [Builtin.append_, run_underlying ht, run_underlying hk, sizeOf, typeInfo, hi, hz1, hx.len, hroom, hx2, Addr.add_lit, hst]
      refine ⟨_, _, hr, ⟨by rw [hbl, hll, Nat.mul_one], .inr ⟨g, cap, _, by rw [hll], hbg, setRow_heap w g cur _ _ _ hg, by omega, hcm, ?_, ?_⟩⟩, ⟨rfl, rfl, rfl, by simp, fun k hk => setRow_other w g k _ (by omega)⟩⟩
      · simp only [List.size_toArray, List.length_append, List.length_take, List.length_drop, Array.length_toList]
        omega
      · rw [htake, ← hcs]
        have hl2 : (L ++ M).length * 1 = (Lib.byteCells L ++ Lib.byteCells M).length := by rw [hcs, hbl, hll, Nat.mul_one]
        rw [hl2]
        exact List.take_left
    · have hf := run_firstCells_some (P := Tryz.prog) w.drew 1 L.length ⟨g, 0, none⟩ L.length cap (Lib.byteCells L) (by omega) (fun j u hj => by have := h.cells (g := g) rfl j u hj; simpa using this)
      have hge := grownCap_ge w (L.length + M.length) cap 5
      have hcm2 : grownCap w (L.length + M.length) cap 5 ≤ maxLen := grownCap_le_maxLen w (L.length + M.length) cap 5 (by unfold maxLen; omega)
      have hfit := growslice_fits (need := L.length + M.length) (old := cap) (bytes := i0.bytes) (by omega) (by rw [hz2]; omega)
      have hr := run_append_grow_src (P := Tryz.prog) w 35 tx ty 5 i0 _ ht hi hz0 (some ⟨g, 0, none⟩) L.length cap (Lib.byteCells L) (by rw [hz1]; exact hf) x M.length (Lib.byteCells M) hx1 (by omega) (by omega) hfit
      refine ⟨_, _, hr, ⟨by rw [hbl, hll, Nat.mul_one], .inr ⟨w.heap.size, _, _, by rw [hll], hB, heap_alloc_new w.drew _, by omega, hcm2, ?_, ?_⟩⟩, ⟨rfl, rfl, rfl, by simp, fun k hk => Below.heap_alloc w.drew _ k (by show k < w.heap.size; omega)⟩⟩
      · have hzc : (Value.int .u8 0).cells.size = 1 := rfl
        rw [Array.size_append, size_zeroCells, hzc, List.size_toArray, hcs, hbl]
        omega
      · rw [Array.toList_append, ← hcs]
        have hl2 : (L ++ M).length * 1 = (Lib.byteCells L ++ Lib.byteCells M).length := by rw [hcs, hbl, hll, Nat.mul_one]
        rw [hl2]
        exact List.take_left
theorem wpList_append_own_src {w : World} {ops : Array Oper} {rest : List Oper} {o : Oper} {a : Act} {Q : Exit → Act → World → Prop} (hgd : o.guard = none) (s x : Operand) (tx : TypeId)
    (hop : o.op = .call { callee := .builtin .append, args := #[s, x], argTypes := #[35, tx] }) (B : Nat) (v : Value) (L M : List UInt8) (hs : a.eval s = v) (ho : w.ownsRow B 5 1 v L.length (Lib.byteCells L)) (h0 : 1 ≤ L.length)
    (vx : Value) (hx : a.eval x = vx) (hsrc : Src Tryz.prog 1 tx vx M.length (Lib.byteCells M) w) (hlen : L.length + M.length ≤ 140737488355328) (hB : B ≤ w.heap.size)
    (h : ∀ v' w', w'.ownsRow B 5 1 v' (L ++ M).length (Lib.byteCells (L ++ M)) → Below B w w' → wpList Tryz.prog ops Q rest (a.put o.dst v') w') : wpList Tryz.prog ops Q (o :: rest) a w := by
  refine wpList_plain hgd fun K hK => ?_
  obtain ⟨v', w', hr, h2, h3⟩ := run_append_own_src w tx o.type B v L M ho h0 vx hsrc hlen hB
  unfold Oper.wp
  simp [execOp, hop, resolve, invoke, builtin, hs, hx, hr, Result.andThen]
  exact hK _ _ (h v' w' h2 h3)
theorem src_text (w : World) (s : ByteArray) : Src Tryz.prog 1 9 (.string s) s.data.toList.length (Lib.byteCells s.data.toList) w := by
  have h := Src.ofString (P := Tryz.prog) w Tryz.underlying9 s
  rwa [show s.size = s.data.toList.length by simp] at h

/-- One byte in a new block of its own. -/
theorem bs_new (w : World) (c : UInt8) (t : TypeId) (z : Nat × Nat) : Bs (w.alloc (.cells #[.int .u8 (c.toNat : Int)] t z)) (some ⟨w.heap.size, 0, none⟩) [c] := by
  refine fun _ => ⟨_, 0, rfl, fun j hj => ?_⟩
  rw [Nat.zero_add, cell_of_row _ _ j _ t z (heap_alloc_new w _)]
  simp only [List.length_cons, List.length_nil] at hj
  obtain rfl : j = 0 := by omega
  rfl
end
/- Plain mathematics of the wire: a number without sign as seven bits a byte, the lowest first; what reading gives; both ways are one another's. Nothing of the program. -/
section

/-- A number without sign, seven bits a byte. -/
def enc (u : Nat) : List UInt8 := if h : u < 128 then [UInt8.ofNat u] else UInt8.ofNat (u % 128 + 128) :: enc (u / 128)
termination_by u
decreasing_by omega
theorem enc_low {u : Nat} (h : u < 128) : enc u = [UInt8.ofNat u] := by rw [enc, dif_pos h]
theorem enc_high {u : Nat} (h : ¬ u < 128) : enc u = UInt8.ofNat (u % 128 + 128) :: enc (u / 128) := by rw [enc, dif_neg h]
theorem enc_pos (u : Nat) : 1 ≤ (enc u).length := by
  by_cases h : u < 128
  · rw [enc_low h]; simp
  · rw [enc_high h]; simp
theorem enc_one (u : Nat) : (enc u).length = 1 ↔ u < 128 := by
  by_cases h : u < 128
  · rw [enc_low h]; simp [h]
  · rw [enc_high h]
    have := enc_pos (u / 128)
    simp only [List.length_cons]
    omega
theorem enc_len_pow : ∀ (k u : Nat), u < 128 ^ (k + 1) → (enc u).length ≤ k + 1
  | 0, u, h => by rw [enc_low (by simpa using h)]; simp
  | k + 1, u, h => by
    by_cases hl : u < 128
    · rw [enc_low hl]; simp
    · rw [enc_high hl]
      have h2 : u / 128 < 128 ^ (k + 1) := by
        rw [Nat.div_lt_iff_lt_mul (by decide)]
        rw [Nat.pow_succ] at h
        exact h
      have := enc_len_pow k (u / 128) h2
      simp only [List.length_cons]
      omega
theorem enc_ten {u : Nat} (h : u < 18446744073709551616) : (enc u).length ≤ 10 :=
  enc_len_pow 9 u (Nat.lt_of_lt_of_le h (by decide))
theorem enc_mono : ∀ (n u v : Nat), u ≤ n → u ≤ v → (enc u).length ≤ (enc v).length := by
  intro n
  induction n with
  | zero =>
    intro u v hu _
    have h0 : u = 0 := by omega
    subst h0
    have := enc_pos v
    rw [enc_low (by decide)]
    simpa using this
  | succ n ih =>
    intro u v hu huv
    by_cases hl : u < 128
    · have := enc_pos v
      rw [enc_low hl]
      simpa using this
    · have hv : ¬ v < 128 := by omega
      rw [enc_high hl, enc_high hv]
      have := ih (u / 128) (v / 128) (by omega) (by omega)
      simp only [List.length_cons]
      omega

/-- What is read as a number without sign: k bytes were read, they made u. -/
def rdU : Nat → Nat → List UInt8 → Option (Nat × List UInt8)
  | _, _, [] => none
  | k, u, c :: R =>
    if k = 9 ∧ 1 < c.toNat then none
    else if 128 ≤ c.toNat then rdU (k + 1) (u + (c.toNat % 128) * 2 ^ (7 * k)) R
    else if 0 < k ∧ c.toNat = 0 then none
    else some (u + (c.toNat % 128) * 2 ^ (7 * k), R)

theorem u8w_of {n : Nat} (h : n < 256) : (UInt8.ofNat n).toNat = n := by simp; omega
theorem pow7 (k : Nat) : (2 : Nat) ^ (7 * (k + 1)) = 2 ^ (7 * k) * 128 := by rw [Nat.mul_succ, Nat.pow_add]
/-- Seven bits more have room below 64, ahead of the last place. -/
theorem room64 {k x r : Nat} (hk : k ≤ 8 ∧ r < 128) (h : x * 2 ^ (7 * (k + 1)) < 18446744073709551616) : (x * 128 + r) * 2 ^ (7 * k) < 18446744073709551616 := by
  obtain ⟨hk, hr⟩ := hk
  have hPQ : 2 ^ (7 * (k + 1)) * 2 ^ (64 - 7 * (k + 1)) = 18446744073709551616 := by
    rw [← Nat.pow_add, show 7 * (k + 1) + (64 - 7 * (k + 1)) = 64 by omega]
  have hx : x < 2 ^ (64 - 7 * (k + 1)) := by
    rw [← hPQ, Nat.mul_comm] at h
    exact Nat.lt_of_mul_lt_mul_left h
  have h1 : (x + 1) * 2 ^ (7 * (k + 1)) ≤ 18446744073709551616 := by
    rw [← hPQ, Nat.mul_comm]
    exact Nat.mul_le_mul_left _ hx
  have hp : 0 < 2 ^ (7 * k) := Nat.pow_pos (by decide)
  have h2 : (x * 128 + r) * 2 ^ (7 * k) < (x + 1) * 128 * 2 ^ (7 * k) := Nat.mul_lt_mul_of_pos_right (by omega) hp
  have h3 : (x + 1) * 128 * 2 ^ (7 * k) = (x + 1) * 2 ^ (7 * (k + 1)) := by rw [pow7, Nat.mul_assoc, Nat.mul_comm 128]
  omega
/-- What was put is read. -/
theorem rdU_enc : ∀ (n k u x : Nat) (R : List UInt8), x ≤ n → k ≤ 9 → (0 < k → 0 < x) → x * 2 ^ (7 * k) < 18446744073709551616 → rdU k u (enc x ++ R) = some (u + x * 2 ^ (7 * k), R) := by
  intro n
  induction n with
  | zero =>
    intro k u x R hx hk h0 _
    have hx0 : x = 0 := by omega
    subst hx0
    rw [enc_low (by decide)]
    show rdU k u (UInt8.ofNat 0 :: R) = _
    have hk0 : ¬ 0 < k := fun h => absurd (h0 h) (by decide)
    unfold rdU
    rw [show (UInt8.ofNat 0).toNat = 0 from rfl, if_neg (by omega), if_neg (by decide), if_neg (by omega)]
  | succ n ih =>
    intro k u x R hx hk h0 hlt
    have h9 : k = 9 → x ≤ 1 := by
      rintro rfl
      have h2 : x * 9223372036854775808 < 18446744073709551616 := hlt
      omega
    by_cases hl : x < 128
    · rw [enc_low hl]
      show rdU k u (UInt8.ofNat x :: R) = _
      unfold rdU
      rw [u8w_of (by omega), if_neg (by omega), if_neg (by omega), if_neg (by omega), Nat.mod_eq_of_lt hl]
    · have hk9 : k ≠ 9 := fun h => by have := h9 h; omega
      rw [enc_high hl]
      show rdU k u (UInt8.ofNat (x % 128 + 128) :: (enc (x / 128) ++ R)) = _
      unfold rdU
      rw [u8w_of (by omega), if_neg (by omega), if_pos (by omega)]
      have hm : (x % 128 + 128) % 128 = x % 128 := by omega
      have hs : x / 128 * 2 ^ (7 * (k + 1)) + x % 128 * 2 ^ (7 * k) = x * 2 ^ (7 * k) := by
        have h3 : (x / 128 * 128 + x % 128) * 2 ^ (7 * k) = x * 2 ^ (7 * k) := by rw [Nat.mul_comm (x / 128) 128, Nat.div_add_mod]
        rw [← h3, Nat.add_mul, pow7, Nat.mul_comm (2 ^ (7 * k)) 128, Nat.mul_assoc]
      rw [hm, ih (k + 1) _ (x / 128) R (by omega) (by omega) (fun _ => by omega) (by omega)]
      congr 2
      omega
/-- What is read was put so. -/
theorem rdU_back : ∀ (L : List UInt8) (k u v : Nat) (R : List UInt8), k ≤ 9 → rdU k u L = some (v, R) → ∃ x, L = enc x ++ R ∧ v = u + x * 2 ^ (7 * k) ∧ (0 < k → 0 < x) ∧ x * 2 ^ (7 * k) < 18446744073709551616 := by
  intro L
  induction L with
  | nil => intro k u v R _ h; cases h
  | cons c L ih =>
    intro k u v R hk h
    unfold rdU at h
    have hc := c.toNat_lt
    by_cases h1 : k = 9 ∧ 1 < c.toNat
    · rw [if_pos h1] at h; cases h
    · rw [if_neg h1] at h
      by_cases h2 : 128 ≤ c.toNat
      · rw [if_pos h2] at h
        have hk9 : k ≠ 9 := fun e => h1 ⟨e, by omega⟩
        obtain ⟨x, e1, e2, e3, e4⟩ := ih (k + 1) _ v R (by omega) h
        have e3' := e3 (by omega)
        refine ⟨x * 128 + c.toNat % 128, ?_, ?_, fun _ => by omega, ?_⟩
        · have hge : ¬ x * 128 + c.toNat % 128 < 128 := by omega
          rw [enc_high hge, e1]
          have ea : (x * 128 + c.toNat % 128) % 128 + 128 = c.toNat := by omega
          have eb : (x * 128 + c.toNat % 128) / 128 = x := by omega
          rw [ea, eb]
          have ec : UInt8.ofNat c.toNat = c := by simp
          rw [ec]
          rfl
        · rw [e2, pow7, Nat.add_mul, Nat.mul_comm (2 ^ (7 * k)) 128, Nat.mul_assoc]
          omega
        · have e5 : (x * 128 + c.toNat % 128) * 2 ^ (7 * k) = x * 2 ^ (7 * (k + 1)) + c.toNat % 128 * 2 ^ (7 * k) := by
            rw [pow7, Nat.add_mul, Nat.mul_comm (2 ^ (7 * k)) 128, Nat.mul_assoc]
          exact room64 (by omega) e4
      · rw [if_neg h2] at h
        by_cases h3 : 0 < k ∧ c.toNat = 0
        · rw [if_pos h3] at h; cases h
        · rw [if_neg h3] at h
          injection h with h
          injection h with h4 h5
          have hm : c.toNat % 128 = c.toNat := Nat.mod_eq_of_lt (by omega)
          rw [hm] at h4
          refine ⟨c.toNat, ?_, h4.symm, fun h0 => by omega, ?_⟩
          · rw [enc_low (by omega), h5]
            have ec : UInt8.ofNat c.toNat = c := by simp
            rw [ec]
            rfl
          · by_cases h9 : k = 9
            · subst h9
              have : c.toNat ≤ 1 := by omega
              simp only [Nat.reduceMul, Nat.reducePow]
              omega
            · have hkk : k = 0 ∨ k = 1 ∨ k = 2 ∨ k = 3 ∨ k = 4 ∨ k = 5 ∨ k = 6 ∨ k = 7 ∨ k = 8 := by omega
              rcases hkk with rfl | rfl | rfl | rfl | rfl | rfl | rfl | rfl | rfl <;> simp only [Nat.reduceMul, Nat.reducePow] <;> omega

/-- A number of either sign as one without, and back. -/
def uz (v : Int) : Nat := if v < 0 then (2 * (-(v + 1)) + 1).toNat else (2 * v).toNat
def zz (u : Nat) : Int := if u % 2 = 1 then -((u / 2 : Nat) : Int) - 1 else ((u / 2 : Nat) : Int)
theorem zz_uz (v : Int) : zz (uz v) = v := by
  unfold zz uz
  by_cases h : v < 0
  · rw [if_pos h, if_pos (by omega)]; omega
  · rw [if_neg h, if_neg (by omega)]; omega
theorem uz_zz (u : Nat) : uz (zz u) = u := by
  unfold zz uz
  by_cases h : u % 2 = 1
  · rw [if_pos h, if_pos (by omega)]; omega
  · rw [if_neg h, if_neg (by omega)]; omega
theorem uz_lt {v : Int} (h0 : -9223372036854775808 ≤ v) (h1 : v ≤ 9223372036854775807) : uz v < 18446744073709551616 := by
  unfold uz
  by_cases h : v < 0
  · rw [if_pos h]; omega
  · rw [if_neg h]; omega
theorem zz_lo {u : Nat} (h : u < 18446744073709551616) : -9223372036854775808 ≤ zz u ∧ zz u ≤ 9223372036854775807 := by
  unfold zz
  by_cases h2 : u % 2 = 1
  · rw [if_pos h2]; omega
  · rw [if_neg h2]; omega
theorem uz_pos {v : Int} (h : 0 ≤ v) : uz v = (2 * v).toNat := by unfold uz; rw [if_neg (by omega)]
theorem uz_neg {v : Int} (h : v < 0) : uz v = (2 * (-(v + 1)) + 1).toNat := by unfold uz; rw [if_pos h]
theorem uz_small (v : Int) : uz v < 128 ↔ -64 ≤ v ∧ v < 64 := by
  by_cases h : v < 0
  · rw [uz_neg h]; omega
  · rw [uz_pos (by omega)]; omega

/-- PutInt's bytes; PutBool's; PutText's. -/
def putI (v : Int) : List UInt8 := enc (uz v)
def putB (t : Bool) : List UInt8 := [if t then 1 else 0]
def putT (s : List UInt8) : List UInt8 := putI (s.length : Int) ++ s
theorem putI_pos (v : Int) : 1 ≤ (putI v).length := enc_pos _
theorem putI_ten {v : Int} (h0 : -9223372036854775808 ≤ v) (h1 : v ≤ 9223372036854775807) : (putI v).length ≤ 10 := enc_ten (uz_lt h0 h1)
theorem putI_one (v : Int) : (putI v).length = 1 ↔ -64 ≤ v ∧ v < 64 := (enc_one _).trans (uz_small v)
theorem putI_up {a b : Int} (h0 : 0 ≤ a) (h : a ≤ b) : (putI a).length ≤ (putI b).length := enc_mono (uz a) _ _ (Nat.le_refl _) (by rw [uz_pos h0, uz_pos (by omega)]; omega)
theorem putI_down {a b : Int} (h0 : a < 0) (h : b ≤ a) : (putI a).length ≤ (putI b).length := enc_mono (uz a) _ _ (Nat.le_refl _) (by rw [uz_neg h0, uz_neg (by omega)]; omega)
theorem putB_len (t : Bool) : (putB t).length = 1 := rfl

/-- A reader's state: what is left; whether it failed (then nothing is left). -/
abbrev St : Type := List UInt8 × Bool
def stI (s : St) : Int × St := match rdU 0 0 s.1 with
  | some (u, R) => (zz u, (R, s.2))
  | none => (0, ([], true))
def stB (s : St) : Bool × St := match s.1 with
  | [] => (false, ([], true))
  | c :: R => if 1 < c.toNat then (false, ([], true)) else (c.toNat == 1, (R, s.2))
def okC (most : Int) (s : St) : Bool := decide (0 ≤ (stI s).1 ∧ (stI s).1 ≤ most ∧ (stI s).1 ≤ ((stI s).2.1.length : Int))
def stC (most : Int) (s : St) : Int × St := if okC most s then stI s else (0, ([], true))
def stT (most : Int) (s : St) : List UInt8 × St := ((stC most s).2.1.take (stC most s).1.toNat, ((stC most s).2.1.drop (stC most s).1.toNat, (stC most s).2.2))

theorem stI_some {s : St} {u : Nat} {R : List UInt8} (h : rdU 0 0 s.1 = some (u, R)) : stI s = (zz u, (R, s.2)) := by unfold stI; simp only [h]
theorem stI_none {s : St} (h : rdU 0 0 s.1 = none) : stI s = (0, ([], true)) := by unfold stI; simp only [h]
theorem stI_put {v : Int} (h0 : -9223372036854775808 ≤ v) (h1 : v ≤ 9223372036854775807) (R : List UInt8) (f : Bool) : stI (putI v ++ R, f) = (v, (R, f)) := by
  have h := rdU_enc (uz v) 0 0 (uz v) R (Nat.le_refl _) (by decide) (fun h => absurd h (by decide)) (by simpa using uz_lt h0 h1)
  have h2 : rdU 0 0 (putI v ++ R, f).1 = some (uz v, R) := by
    show rdU 0 0 (enc (uz v) ++ R) = _
    rw [h]; simp
  rw [stI_some h2, zz_uz]
theorem stI_back {L : List UInt8} {f : Bool} (h : (stI (L, f)).2.2 = false) : L = putI (stI (L, f)).1 ++ (stI (L, f)).2.1 ∧ -9223372036854775808 ≤ (stI (L, f)).1 ∧ (stI (L, f)).1 ≤ 9223372036854775807 := by
  cases e : rdU 0 0 L with
  | none => rw [stI_none (s := (L, f)) e] at h; cases h
  | some p =>
    obtain ⟨u, R⟩ := p
    have hs := stI_some (s := (L, f)) e
    rw [hs]
    obtain ⟨x, e1, e2, _, e4⟩ := rdU_back L 0 0 u R (by decide) e
    have e5 : u = x := by rw [e2]; simp
    have e6 : x < 18446744073709551616 := by simpa using e4
    subst e5
    refine ⟨?_, zz_lo e6⟩
    show L = enc (uz (zz u)) ++ R
    rw [uz_zz]; exact e1
theorem stI_lo (s : St) : -9223372036854775808 ≤ (stI s).1 ∧ (stI s).1 ≤ 9223372036854775807 := by
  cases e : rdU 0 0 s.1 with
  | none => rw [stI_none e]; exact ⟨by decide, by decide⟩
  | some p =>
    obtain ⟨u, R⟩ := p
    rw [stI_some e]
    obtain ⟨x, _, e2, _, e4⟩ := rdU_back s.1 0 0 u R (by decide) e
    have e5 : u = x := by rw [e2]; simp
    subst e5
    exact zz_lo (by simpa using e4)
theorem stI_left (s : St) : (stI s).2.1.length ≤ s.1.length := by
  cases e : rdU 0 0 s.1 with
  | none => rw [stI_none e]; simp
  | some p =>
    obtain ⟨u, R⟩ := p
    rw [stI_some e]
    obtain ⟨x, e1, _⟩ := rdU_back s.1 0 0 u R (by decide) e
    rw [e1]; simp
end
/- Contracts of wire.unsigned, wire.signed: for every number. -/
section
open Go.RowKit

set_option maxHeartbeats 400000 in
theorem unsigned_any (v : Int) (w : World) (h0 : -9223372036854775808 ≤ v) (h1 : v ≤ 9223372036854775807) :
    Calls Tryz.prog 59 #[.int .i64 v] w fun e w' => e = .returned (.int .u64 (uz v : Int)) ∧ w = w' := by
  by_cases h : v < 0
  · have hu := uz_neg h
    go_enter Tryz.func59, Tryz.ntmps59
    go_wp2
    go_ret
    exact ⟨ret_int (by omega), rfl⟩
  · have hu := uz_pos (v := v) (by omega)
    go_enter Tryz.func59, Tryz.ntmps59
    go_wp2
    go_ret
    exact ⟨ret_int (by omega), rfl⟩

set_option maxHeartbeats 400000 in
theorem signed_any (u : Nat) (w : World) (h : u < 18446744073709551616) :
    Calls Tryz.prog 78 #[.int .u64 (u : Int)] w fun e w' => e = .returned (.int .i64 (zz u)) ∧ w = w' := by
  by_cases h2 : u % 2 = 1
  · have hz : zz u = -((u / 2 : Nat) : Int) - 1 := by unfold zz; rw [if_pos h2]
    go_enter Tryz.func78, Tryz.ntmps78
    go_wp2
    go_ret
    exact ⟨ret_int (by rw [hz]; omega), rfl⟩
  · have hz : zz u = ((u / 2 : Nat) : Int) := by unfold zz; rw [if_neg h2]
    go_enter Tryz.func78, Tryz.ntmps78
    go_wp2
    go_ret
    exact ⟨ret_int (by rw [hz]; omega), rfl⟩
end
/- Contract of wire.PutInt: the number's bytes behind any bytes, in memory of the call's own. -/
section
open Go.RowKit

theorem and_127 (x : Nat) (h : x < 18446744073709551616) : bits .and .u64 (x : Int) 127 = ((x % 128 : Nat) : Int) := by
  have h2 : bits .and .u64 (x : Int) 127 = ((x &&& 127 : Nat) : Int) := u64_and_nat x 127 h (by decide)
  rw [h2, show (127 : Nat) = 2 ^ 7 - 1 by rfl, Nat.and_two_pow_sub_one_eq_mod]
theorem or_128 (m : Nat) (h : m < 128) : bits .or .u8 (m : Int) 128 = ((UInt8.ofNat (m + 128)).toNat : Int) := by
  have h2 : bits .or .u8 (m : Int) 128 = ((m ||| 128 : Nat) : Int) := u8_or_nat m 128 (by omega) (by decide)
  have h3 : 2 ^ 7 * 1 + m = 2 ^ 7 * 1 ||| m := Nat.two_pow_add_eq_or_of_lt (i := 7) h 1
  rw [h2, u8w_of (by omega), Nat.or_comm, show (128 : Nat) = 2 ^ 7 * 1 by rfl, ← h3, Nat.add_comm]

/-- The bytes P were put, x is what is left of the number. -/
def PutRel (w : World) (v : Int) (L : List UInt8) (b : Value) (P : List UInt8) (x : Nat) (wr : World) : Prop :=
  P ++ enc x = putI v ∧ Onto w.heap.size wr b (L ++ P) ∧ Below w.heap.size w wr ∧ x < 18446744073709551616
section
variable {w wr : World} {v : Int} {L P : List UInt8} {b : Value} {x : Nat}
theorem PutRel.start (h : uz v < 18446744073709551616) (ho : Onto w.heap.size w b L) : PutRel w v L b [] (uz v) w :=
  ⟨rfl, by rwa [List.append_nil], Below.refl _ _, h⟩
theorem PutRel.hi (h : PutRel w v L b P x wr) : x ≤ 18446744073709551615 := by have := h.2.2.2; omega
theorem PutRel.len (h : PutRel w v L b P x wr) (h0 : -9223372036854775808 ≤ v) (h1 : v ≤ 9223372036854775807) : P.length + 1 ≤ 10 := by
  have := putI_ten h0 h1
  rw [← h.1, List.length_append] at this
  have := enc_pos x
  omega
theorem PutRel.next (h : PutRel w v L b P x wr) (hx : ¬ x < 128) {c : UInt8} (hc : c = UInt8.ofNat (x % 128 + 128)) (o : Obj) {b' : Value} {w' : World}
    (ho : w'.ownsRow w.heap.size 5 1 b' (L ++ P ++ [c]).length (Lib.byteCells (L ++ P ++ [c]))) (hb : Below w.heap.size (wr.alloc o) w') : PutRel w v L b' (P ++ [c]) (x / 128) w' := by
  obtain ⟨h1, h2, h3, h4⟩ := h
  refine ⟨?_, .inr (by rwa [← List.append_assoc]), (h3.alloc h3.size o).trans hb, by omega⟩
  rw [enc_high hx, ← hc] at h1
  rw [← h1, List.append_assoc]
  rfl
theorem PutRel.last (h : PutRel w v L b P x wr) (hx : x < 128) {c : UInt8} (hc : c = UInt8.ofNat x) (o : Obj) {b' : Value} {w' : World}
    (ho : w'.ownsRow w.heap.size 5 1 b' (L ++ P ++ [c]).length (Lib.byteCells (L ++ P ++ [c]))) (hb : Below w.heap.size (wr.alloc o) w') : OwnBytes w (L ++ putI v) (.returned b') w' := by
  obtain ⟨h1, h2, h3, h4⟩ := h
  rw [enc_low hx, ← hc] at h1
  rw [List.append_assoc, h1] at ho
  exact own_bytes ho ((h3.alloc h3.size o).trans hb)
end

set_option maxHeartbeats 400000 in
theorem putint_any (A : Option Addr) (L : List UInt8) (cap : Nat) (v : Int) (w : World) (hl : L.length + 10 ≤ 140737488355328) (hlc : L.length ≤ cap) (hB : Bs w A L) (h0 : -9223372036854775808 ≤ v) (h1 : v ≤ 9223372036854775807) :
    Calls Tryz.prog 37 #[.slice A L.length cap, .int .i64 v] w (OwnBytes w (L ++ putI v)) := by
  have hun := unsigned_any v w h0 h1
  have hul := uz_lt h0 h1
  have hfull : Onto w.heap.size w (.slice A L.length L.length) L := Onto.of_full hB
  go_enter Tryz.func37, Tryz.ntmps37
  go_wp2_with fail
  refine hun.mono ?_
  rintro e w' ⟨rfl, rfl⟩
  go_wp2_with fail
  clear hun
  go_loopw [0, 5] (fun b u wr => ∃ (P : List UInt8) (x : Nat), u = .int .u64 (x : Int) ∧ PutRel w v L b P x wr) (fun _ u _ => (intOf u).toNat)
  case atStart => exact ⟨[], uz v, rfl, PutRel.start hul hfull⟩
  case round =>
    clear hfull hul hB hlc
    obtain ⟨P, x, rfl, hr⟩ := hrel
    have hx := hr.hi
    have hP := hr.len h0 h1
    have hlen : (L ++ P).length + 1 ≤ 140737488355328 := by rw [List.length_append]; omega
    have hsz := hr.2.2.1.size
    have HR := Lib.hid hr
    clear hr
    by_cases hlt : x < 128
    · obtain ⟨c, hc⟩ : ∃ c, c = UInt8.ofNat x := ⟨_, rfl⟩
      have hcx : (x : Int) = (c.toNat : Int) := by rw [hc, u8w_of (by omega)]
      have HC := Lib.hid hc
      have HCX := Lib.hid hcx
      clear hc hcx
      go_wp2_with (at_builtin; go_loud (refine wpList_append_onto rfl (.tmp 25) (.tmp 28) rfl w.heap.size _ (L ++ P) [c] rfl (HR.out.2.1.alloc _) ⟨wr.heap.size, 0, none⟩ 1 rfl (by rw [HCX.out]; exact bs_new _ _ _ _) (Nat.le_refl 1) hlen (by simp; omega) ?_; intro b' w' ho hb))
      go_ret
      exact HR.out.last hlt HC.out _ ho hb
    · obtain ⟨c, hc⟩ : ∃ c, c = UInt8.ofNat (x % 128 + 128) := ⟨_, rfl⟩
      have hb1 := and_127 x (by omega)
      have hb2 := or_128 (x % 128) (by omega)
      rw [← hc] at hb2
      have hm : x % 128 < 128 := by omega
      have HC := Lib.hid hc
      clear hc
      generalize hq : x % 128 = m at hb1 hb2 hm
      clear hq
      go_wp2_with (at_builtin; go_loud (refine wpList_append_onto rfl (.tmp 18) (.tmp 23) rfl w.heap.size _ (L ++ P) [c] rfl (HR.out.2.1.alloc _) ⟨wr.heap.size, 0, none⟩ 1 rfl (bs_new _ _ _ _) (Nat.le_refl 1) hlen (by simp; omega) ?_; intro b' w' ho hb))
      go_roundw
      case rel => exact ⟨P ++ [c], x / 128, by go_num, HR.out.next hlt HC.out _ ho hb⟩
      case measure => simp [intOf]; omega
end
/- Contracts of the document's own Int and Bool: a number's bytes, a truth's, in memory of the call's own. -/
section
open Go.RowKit

theorem uz_up (v : Int) (h0 : 0 ≤ v) : (uz v : Int) = v * 2 := by rw [uz_pos h0]; omega
theorem uz_dn (v : Int) (h0 : v < 0) : (uz v : Int) = (-(v + 1)) * 2 + 1 := by rw [uz_neg h0]; omega
theorem add_128 (m : Nat) (h : m < 128) : (m : Int) + 128 = ((UInt8.ofNat (m + 128)).toNat : Int) := by rw [u8w_of (by omega)]; omega

set_option maxHeartbeats 400000 in
set_option maxRecDepth 100000 in
theorem refint_any (v : Int) (w : World) (h0 : -9223372036854775808 ≤ v) (h1 : v ≤ 9223372036854775807) :
    Calls Tryz.prog 45 #[.int .i64 v] w (OwnBytes w (putI v)) := by
  have hul := uz_lt h0 h1
  have hfull : Onto w.heap.size w (.slice none 0 0) [] := Onto.nil _ _
  obtain ⟨hu, h2⟩ | ⟨hu, h2⟩ : ((uz v : Int) = v * 2 ∧ 0 ≤ v) ∨ ((uz v : Int) = (-(v + 1)) * 2 + 1 ∧ v < 0) := by
    by_cases h : v < 0
    · exact .inr ⟨uz_dn v h, h⟩
    · exact .inl ⟨uz_up v (by omega), by omega⟩
  all_goals
    have HU := Lib.hid hu
    have HUL := Lib.hid hul
    clear hu hul
    go_enter Tryz.func45, Tryz.ntmps45
    go_wp2_with fail
    go_loopw [4, 3] (fun b u wr => ∃ (P : List UInt8) (x : Nat), u = .int .u64 (x : Int) ∧ PutRel w v [] b P x wr) (fun _ u _ => (intOf u).toNat)
    case atStart => exact ⟨[], uz v, by rw [HU.out], PutRel.start HUL.out hfull⟩
    case round =>
      clear hfull HU HUL
      obtain ⟨P, x, rfl, hr⟩ := hrel
      have hx := hr.hi
      have hP := hr.len h0 h1
      have hlen : ([] ++ P).length + 1 ≤ 140737488355328 := by rw [List.nil_append]; omega
      have hsz := hr.2.2.1.size
      have HR := Lib.hid hr
      clear hr
      by_cases hlt : x < 128
      · obtain ⟨c, hc⟩ : ∃ c, c = UInt8.ofNat x := ⟨_, rfl⟩
        have hcx : (x : Int) = (c.toNat : Int) := by rw [hc, u8w_of (by omega)]
        have HC := Lib.hid hc
        have HCX := Lib.hid hcx
        clear hc hcx
        go_wp2_with (at_builtin; refine wpList_append_onto rfl (.tmp 27) (.tmp 30) rfl w.heap.size _ ([] ++ P) [c] rfl (HR.out.2.1.alloc _) ⟨wr.heap.size, 0, none⟩ 1 rfl (by rw [HCX.out]; exact bs_new _ _ _ _) (Nat.le_refl 1) hlen (by simp; omega) ?_; intro b' w' ho hb)
        go_ret
        exact HR.out.last hlt HC.out _ ho hb
      · obtain ⟨c, hc⟩ : ∃ c, c = UInt8.ofNat (x % 128 + 128) := ⟨_, rfl⟩
        have hb1 : (x : Int) % 128 = ((x % 128 : Nat) : Int) := by omega
        have hb2 := add_128 (x % 128) (by omega)
        rw [← hc] at hb2
        have hm : x % 128 < 128 := by omega
        have HC := Lib.hid hc
        clear hc
        generalize hq : x % 128 = m at hb1 hb2 hm
        clear hq
        go_wp2_with (at_builtin; (refine wpList_append_onto rfl (.tmp 18) (.tmp 23) rfl w.heap.size _ ([] ++ P) [c] rfl (HR.out.2.1.alloc _) ⟨wr.heap.size, 0, none⟩ 1 rfl (bs_new _ _ _ _) (Nat.le_refl 1) hlen (by simp; omega) ?_; intro b' w' ho hb))
        go_roundw
        case rel => exact ⟨P ++ [c], x / 128, by go_num, HR.out.next hlt HC.out _ ho hb⟩
        case measure => simp [intOf]; omega
end
/- Contracts of wire.PutText, the document's own Text: the bytes, in memory of the call's own. -/
section
open Go.RowKit

theorem own_len {B : Nat} {w : World} {A : Option Addr} {n cap : Nat} {k : Nat} {xs : List Value} {e : TypeId} (h : w.ownsRow B e 1 (.slice A n cap) k xs) : n = k := by
  rcases h.2 with ⟨e1, rfl⟩ | ⟨g, c, cur, e1, _⟩
  · injection e1
  · injection e1

theorem putT_app (L s : List UInt8) : L ++ putI (s.length : Int) ++ s = L ++ putT s := by unfold putT; rw [List.append_assoc]

set_option maxHeartbeats 400000 in
theorem puttext_any (A : Option Addr) (L : List UInt8) (cap : Nat) (s : ByteArray) (w : World) (hl : L.length + s.data.toList.length + 10 ≤ 140737488355328) (hlc : L.length ≤ cap) (hB : Bs w A L) :
    Calls Tryz.prog 60 #[.slice A L.length cap, .string s] w (OwnBytes w (L ++ putT s.data.toList)) := by
  have hsz : s.size = s.data.toList.length := by simp
  have hs0 : (s.size : Int) = (s.data.toList.length : Int) := by rw [hsz]
  have hput := putint_any A L cap (s.size : Int) w (by omega) hlc hB (by omega) (by omega)
  have ht := putI_ten (v := (s.size : Int)) (by omega) (by omega)
  have hp := putI_pos (s.size : Int)
  obtain ⟨M, hM⟩ : ∃ M, M = L ++ putI (s.size : Int) := ⟨_, rfl⟩
  rw [← hM] at hput
  have hMl : 1 ≤ M.length ∧ M.length + s.data.toList.length ≤ 140737488355328 := by rw [hM, List.length_append]; omega
  obtain ⟨hM1, hM2⟩ := hMl
  have HM := Lib.hid hM
  have HS := Lib.hid hs0
  have HT := Lib.hid (putT_app L s.data.toList)
  clear hsz hs0 hB hM
  go_enter Tryz.func60, Tryz.ntmps60
  go_wp2_with fail
  refine hput.mono ?_
  rintro e w1 ⟨A1, cap1, rfl, _, _, hown, hb1⟩
  clear hput
  have hs1 := hb1.size
  have HO := Lib.hid hown
  clear hown
  go_wp2_with (at_builtin; refine wpList_append_own_src rfl (.tmp 9) (.tmp 10) 9 rfl w.heap.size _ M s.data.toList rfl HO.out hM1 (.string s) rfl (src_text _ _) hM2 hs1 ?_; intro b' w' ho hb)
  go_ret
  rw [HM.out, HS.out, HT.out] at ho
  exact own_bytes ho (hb1.trans hb)

set_option maxHeartbeats 400000 in
theorem reftext_any (s : ByteArray) (w : World) (hl : s.data.toList.length + 10 ≤ 140737488355328) :
    Calls Tryz.prog 46 #[.string s] w (OwnBytes w (putT s.data.toList)) := by
  have hsz : s.size = s.data.toList.length := by simp
  have hs0 : (s.size : Int) = (s.data.toList.length : Int) := by rw [hsz]
  have hput := refint_any (s.size : Int) w (by omega) (by omega)
  have ht := putI_ten (v := (s.size : Int)) (by omega) (by omega)
  have hp := putI_pos (s.size : Int)
  have HS := Lib.hid hs0
  clear hsz hs0
  go_enter Tryz.func46, Tryz.ntmps46
  go_wp2_with fail
  refine hput.mono ?_
  rintro e w1 ⟨A1, cap1, rfl, _, _, hown, hb1⟩
  clear hput
  have hs1 := hb1.size
  have HO := Lib.hid hown
  clear hown
  go_wp2_with (at_builtin; refine wpList_append_own_src rfl (.tmp 5) (.tmp 6) 9 rfl w.heap.size _ (putI (s.size : Int)) s.data.toList rfl HO.out (by omega) (.string s) rfl (src_text _ _) (by omega) hs1 ?_; intro b' w' ho hb)
  go_ret
  rw [HS.out] at ho
  exact own_bytes (L := putT s.data.toList) ho (hb1.trans hb)
theorem put_nil (v : Int) (w : World) (h0 : -9223372036854775808 ≤ v) (h1 : v ≤ 9223372036854775807) : Calls Tryz.prog 37 #[.slice none 0 0, .int .i64 v] w (OwnBytes w (putI v)) := by
  have c := putint_any none [] 0 v w (by simp) (by simp) (Bs.nil _ _) h0 h1
  rw [List.nil_append] at c
  exact c
theorem own_cap {B : Nat} {w : World} {A : Option Addr} {n cap : Nat} {xs : List Value} {e : TypeId} (h : w.ownsRow B e 1 (.slice A n cap) n xs) : n ≤ cap := by
  rcases h.2 with ⟨e1, rfl⟩ | ⟨g, c, cur, e1, _, _, hc, _⟩
  · exact Nat.zero_le _
  · injection e1 with _ _ e1; omega
end
/- The contracts of value.Put and of the document's own: the bytes, in memory of the call's own. -/
section
open Go.RowKit

/-- A value's bytes. -/
def putV (K n : Int) (s : List UInt8) : List UInt8 := putI K ++ putI n ++ putT s
theorem putV_app (L : List UInt8) (K n : Int) (s : List UInt8) : L ++ putI K ++ putI n ++ putT s = L ++ putV K n s := by unfold putV; simp only [List.append_assoc]
/-- Unlike values are put unlike. -/
theorem putI_inj {a b : Int} (a0 : -9223372036854775808 ≤ a) (a1 : a ≤ 9223372036854775807) (b0 : -9223372036854775808 ≤ b) (b1 : b ≤ 9223372036854775807) {R S : List UInt8} (h : putI a ++ R = putI b ++ S) : a = b ∧ R = S := by
  have x := stI_put a0 a1 R false
  rw [h, stI_put b0 b1 S false] at x
  injection x with x1 x2
  injection x2 with x2
  exact ⟨x1.symm, x2.symm⟩
theorem putV_inj {K n L m : Int} {s t : List UInt8} (k0 : -9223372036854775808 ≤ K) (k1 : K ≤ 9223372036854775807) (n0 : -9223372036854775808 ≤ n) (n1 : n ≤ 9223372036854775807)
    (l0 : -9223372036854775808 ≤ L) (l1 : L ≤ 9223372036854775807) (m0 : -9223372036854775808 ≤ m) (m1 : m ≤ 9223372036854775807) (hs : s.length ≤ 1000000) (ht : t.length ≤ 1000000)
    (h : putV K n s = putV L m t) : K = L ∧ n = m ∧ s = t := by
  unfold putV putT at h
  simp only [List.append_assoc] at h
  obtain ⟨e1, h1⟩ := putI_inj k0 k1 l0 l1 h
  obtain ⟨e2, h2⟩ := putI_inj n0 n1 m0 m1 h1
  obtain ⟨-, e3⟩ := putI_inj (by omega) (by omega) (by omega) (by omega) h2
  exact ⟨e1, e2, e3⟩
theorem src_slice {w : World} {A : Option Addr} {M : List UInt8} (cap : Nat) (hB : Bs w A M) (hm : 1 ≤ M.length) : Src Tryz.prog 1 35 (.slice A M.length cap) M.length (Lib.byteCells M) w := by
  obtain ⟨b, off, rfl, hc⟩ := hB (by omega)
  refine Src.ofSlice (size := 1) _ Tryz.underlying35 ⟨b, off, none⟩ M.length cap (Lib.byteCells M) (by simp [Lib.byteCells]) (fun j u hu => ?_) (fun u hu => by obtain ⟨x, _, rfl⟩ := List.mem_map.1 hu; rfl)
  unfold Lib.byteCells at hu
  rw [List.getElem?_map] at hu
  obtain ⟨x, hx, rfl⟩ := Option.map_eq_some_iff.1 hu
  have hj : j < M.length := (List.getElem?_eq_some_iff.1 hx).1
  have h := hc j hj
  have hd : M.getD j 0 = x := by rw [List.getD_eq_getElem?_getD, hx]; rfl
  have e : (⟨b, off, none⟩ : Addr).add j = ⟨b, off + j, none⟩ := by unfold Addr.add; split <;> simp_all
  rw [e, h, hd]
theorem run_op_append {w w' : World} {a : Act} {o : Oper} {v : Value} {t1 t2 : TypeId} (s x : Operand) (hop : o.op = .call { callee := .builtin .append, args := #[s, x], argTypes := #[t1, t2] })
    (hr : (Builtin.append_ #[t1, t2] o.type #[a.eval s, a.eval x]).run Tryz.prog w = .ok v w') : (execOp a.eval o).run Tryz.prog w = .ok (.value v) w' := by
  simp [execOp, hop, resolve, invoke, builtin, hr, Result.andThen]
theorem own_of {w w1 w2 : World} {L : List UInt8} {e : Ending} (h : OwnBytes w1 L e w2) (hb : Below w.heap.size w w1) : OwnBytes w L e w2 := by
  obtain ⟨A, cap, rfl, hB, hc, ho, hb2⟩ := h
  exact ⟨A, cap, rfl, hB, hc, ho.mono hb.size, below_to hb hb2⟩

set_option maxHeartbeats 1000000 in
theorem put_any (A : Option Addr) (L : List UInt8) (cap : Nat) (K n : Int) (s : ByteArray) (w : World) (hl : L.length + s.data.toList.length + 30 ≤ 140737488355328) (hlc : L.length ≤ cap) (hB : Bs w A L)
    (k0 : -9223372036854775808 ≤ K) (k1 : K ≤ 9223372036854775807) (n0 : -9223372036854775808 ≤ n) (n1 : n ≤ 9223372036854775807) :
    Calls Tryz.prog 77 #[.slice A L.length cap, V3 K n s] w (OwnBytes w (L ++ putV K n s.data.toList)) := by
  have hb0 := below_alloc w (.cells #[.int .i64 K, .int .i64 n, .string s] 32)
  have c1 := putint_any A L cap K _ (by omega) hlc (hB.below hb0) k0 k1
  have t1 := putI_ten (v := K) k0 k1
  have t2 := putI_ten (v := n) n0 n1
  have e := putV_app L K n s.data.toList
  have c2 := fun (M : List UInt8) (hM : M = L ++ putI K) A1 cap1 w1 h1 h2 => putint_any A1 M cap1 n w1 (by rw [hM, List.length_append]; omega) h1 h2 n0 n1
  have c3 := fun (M : List UInt8) (hM : M = L ++ putI K ++ putI n) A1 cap1 w1 h1 h2 => puttext_any A1 M cap1 s w1 (by rw [hM, List.length_append, List.length_append]; omega) h1 h2
  obtain ⟨M1, hM1⟩ : ∃ M, M = L ++ putI K := ⟨_, rfl⟩
  obtain ⟨M2, hM2⟩ : ∃ M, M = L ++ putI K ++ putI n := ⟨_, rfl⟩
  have d2 := c2 M1 hM1
  have d3 := c3 M2 hM2
  rw [← hM1] at c1 hM2
  simp only [← hM2] at d2
  rw [hM2, hM1] at d3
  rw [e] at d3
  rw [← hM1, ← hM2] at d3
  generalize L ++ putV K n s.data.toList = G at d3 ⊢
  clear c2 c3 hM1 hM2 hl t1 t2 e
  go_enter Tryz.func77, Tryz.ntmps77
  have h3 := three_new w (.int .i64 K) (.int .i64 n) (.string s) 32
  obtain ⟨w0, hw0⟩ : ∃ w0, w.alloc (.cells #[.int .i64 K, .int .i64 n, .string s] 32) = w0 := ⟨_, rfl⟩
  rw [hw0] at c1 hb0 h3
  have h31 := fun w1 (hb : Below w0.heap.size w0 w1) => h3.later hb
  obtain ⟨hlt0, z0, z1, z2, -, -, -⟩ := h3
  go_wp2_with fail
  refine c1.mono ?_
  rintro e w1 ⟨A1, cap1, rfl, hB1, _, ho1, hb1⟩
  replace h31 := h31 _ hb1
  have hbw1 := below_to hb0 hb1
  clear c1 hw0 z0 z1 z2 hb0 hb1 hlt0
  obtain ⟨hlt, a0, a1, a2, -, -, -⟩ := h31
  have hlt1 := hlt
  go_wp2_with fail
  refine (d2 A1 cap1 _ (own_cap ho1) hB1).mono ?_
  rintro e w2 ⟨A2, cap2, rfl, hB2, _, ho2, hb2⟩
  have hbw2 := below_to hbw1 hb2
  have z2 := (hb2.cell (p := ⟨w.heap.size, 2, none⟩) hlt1).trans a2
  clear a0 a1 a2 d2
  go_wp2_with fail
  refine (d3 A2 cap2 _ (own_cap ho2) hB2).mono ?_
  rintro e w3 ho3
  obtain ⟨A3, cap3, rfl, hB3, hc3, ho3, hb3⟩ := own_of ho3 hbw2
  go_wp2
  go_ret
  exact ⟨A3, cap3, rfl, hB3, hc3, ho3, hb3⟩

set_option maxHeartbeats 1000000 in
theorem refput_any (K n : Int) (s : ByteArray) (w : World) (hl : s.data.toList.length + 30 ≤ 140737488355328)
    (k0 : -9223372036854775808 ≤ K) (k1 : K ≤ 9223372036854775807) (n0 : -9223372036854775808 ≤ n) (n1 : n ≤ 9223372036854775807) :
    Calls Tryz.prog 67 #[V3 K n s] w (OwnBytes w (putV K n s.data.toList)) := by
  have hb0 := below_alloc w (.cells #[.int .i64 K, .int .i64 n, .string s] 32)
  have h3 := three_new w (.int .i64 K) (.int .i64 n) (.string s) 32
  have c1 := fun w => refint_any K w k0 k1
  have c2 := fun w => refint_any n w n0 n1
  have c3 := fun w => reftext_any s w (by omega)
  have t1 := putI_ten (v := K) k0 k1
  have t2 := putI_ten (v := n) n0 n1
  have p1 := putI_pos K
  have p2 := putI_pos n
  have q : 1 ≤ (putT s.data.toList).length ∧ (putT s.data.toList).length ≤ s.data.toList.length + 10 := by
    unfold putT
    have a := putI_pos (s.data.toList.length : Int)
    have b := putI_ten (v := (s.data.toList.length : Int)) (by omega) (by omega)
    rw [List.length_append]; omega
  have e : putI K ++ putI n ++ putT s.data.toList = putV K n s.data.toList := rfl
  rw [← e]
  generalize putT s.data.toList = X3 at *
  generalize putI K = X1 at *
  generalize putI n = X2 at *
  obtain ⟨w0, hw0⟩ : ∃ w0, w.alloc (.cells #[.int .i64 K, .int .i64 n, .string s] 32) = w0 := ⟨_, rfl⟩
  rw [hw0] at hb0 h3
  clear e
  go_enter Tryz.func67, Tryz.ntmps67
  obtain ⟨hlt, a0, a1, a2, -, -, -⟩ := h3
  have hlt0 := hlt
  have k0 : ∀ wz, Below w0.heap.size w0 wz → wz.cell? ⟨w.heap.size, 0, none⟩ = some (.int .i64 K) := fun wz h => (h.cell (p := ⟨w.heap.size, 0, none⟩) hlt0).trans a0
  have k1 : ∀ wz, Below w0.heap.size w0 wz → wz.cell? ⟨w.heap.size, 1, none⟩ = some (.int .i64 n) := fun wz h => (h.cell (p := ⟨w.heap.size, 1, none⟩) hlt0).trans a1
  have k2 : ∀ wz, Below w0.heap.size w0 wz → wz.cell? ⟨w.heap.size, 2, none⟩ = some (.string s) := fun wz h => (h.cell (p := ⟨w.heap.size, 2, none⟩) hlt0).trans a2
  clear a0 a1 a2
  go_wp2_with fail
  clear hw0
  refine wp_region_held_drew (S := fun w' => Below w0.heap.size w0 w') (by kernel_rfl) ((Below.refl _ _).drew) (fun hHeld => ?_)
  refine held_take (i := 0) (v := ?_) rfl (by kernel_rfl) (by kernel_rfl) (by kernel_rfl) (fun _ _ _ h => h) (by rfl) hHeld ?_ ?_
  rotate_left
  · intro wz hSz; go_simp; try with_reducible rfl
  simp only [Act.put, List.setIfInBounds_toArray, List.set_cons_zero, List.set_cons_succ]
  refine held_take (i := 1) (v := ?_) rfl (by kernel_rfl) (by kernel_rfl) (by kernel_rfl) (fun _ _ _ h => h) (by rfl) hHeld ?_ ?_
  rotate_left
  · intro wz hSz; have q0 := k0 wz hSz; go_simp; try with_reducible rfl
  simp only [Act.put, List.setIfInBounds_toArray, List.set_cons_zero, List.set_cons_succ]
  refine held_take (i := 3) (v := ?_) rfl (by kernel_rfl) (by kernel_rfl) (by kernel_rfl) (fun _ _ _ h => h) (by rfl) hHeld ?_ ?_
  rotate_left
  · intro wz hSz; go_simp; try with_reducible rfl
  simp only [Act.put, List.setIfInBounds_toArray, List.set_cons_zero, List.set_cons_succ]
  refine held_take (i := 4) (v := ?_) rfl (by kernel_rfl) (by kernel_rfl) (by kernel_rfl) (fun _ _ _ h => h) (by rfl) hHeld ?_ ?_
  rotate_left
  · intro wz hSz; have q0 := k1 wz hSz; go_simp; try with_reducible rfl
  simp only [Act.put, List.setIfInBounds_toArray, List.set_cons_zero, List.set_cons_succ]
  have hS0 := hHeld.size
  refine held_call (i := 2) (by kernel_rfl) rfl (by rfl) (by go_simp; try with_reducible rfl) (c1 _) ?_
  rintro e wy ⟨A1, cap1, rfl, hB1, _, ho1, hy⟩
  refine ⟨_, rfl, below_to hHeld hy, ?_⟩
  replace hHeld := below_to hHeld hy
  simp only [Act.put, List.setIfInBounds_toArray, List.set_cons_zero, List.set_cons_succ]
  replace ho1 := ho1.mono hS0
  clear hy
  refine held_call (i := 5) (by kernel_rfl) rfl (by rfl) (by go_simp; try with_reducible rfl) (c2 _) ?_
  rintro e wy ⟨A2, cap2, rfl, hB2, _, ho2, hy⟩
  refine ⟨_, rfl, below_to hHeld hy, ?_⟩
  replace hHeld := below_to hHeld hy
  simp only [Act.put, List.setIfInBounds_toArray, List.set_cons_zero, List.set_cons_succ]
  replace ho1 := own_later ho1 hy
  obtain ⟨v3, w3, hr, ho3, hb3⟩ := run_append_own_src wy 35 35 w0.heap.size _ X1 X2 ho1 p1 _ (src_slice cap2 hB2 p2) (by omega) hHeld.size
  refine held_make (i := 6) (v := v3) (w' := w3) (by kernel_rfl) rfl (by rfl) (run_op_append (.tmp 6) (.tmp 9) rfl hr) (hHeld.trans hb3) ?_
  replace hHeld := hHeld.trans hb3
  clear hr hb3 hy ho2 hB1 hB2 ho1
  simp only [Act.put, List.setIfInBounds_toArray, List.set_cons_zero, List.set_cons_succ]
  refine held_take (i := 7) (v := ?_) rfl (by kernel_rfl) (by kernel_rfl) (by kernel_rfl) (fun _ _ _ h => h) (by rfl) hHeld ?_ ?_
  rotate_left
  · intro wz hSz; go_simp; try with_reducible rfl
  simp only [Act.put, List.setIfInBounds_toArray, List.set_cons_zero, List.set_cons_succ]
  refine wpAnyH_done (by kernel_rfl) ?_ _
  have hl12 : (X1 ++ X2).length ≤ 20 := by rw [List.length_append]; omega
  have hl11 : 1 ≤ (X1 ++ X2).length := by rw [List.length_append]; omega
  generalize X1 ++ X2 = X12 at *
  have q2 := k2 _ hHeld
  have HO := Lib.hid ho3
  clear ho3
  go_wp2_with fail
  refine (c3 _).mono ?_
  rintro e w4 ⟨A4, cap4, rfl, hB4, _, ho4, hy⟩
  have ho5 := own_later HO.out hy
  have hz4 := (below_to hHeld hy).size
  have hb4 := below_to hb0 (below_to hHeld hy)
  have HO5 := Lib.hid ho5
  clear ho5 ho4
  go_wp2_with (at_builtin; refine wpList_append_own_src rfl (.tmp 11) (.tmp 14) 35 rfl w0.heap.size _ X12 X3 rfl HO5.out hl11 _ rfl (src_slice cap4 hB4 q.1) (by omega) hz4 ?_; intro b' w' ho hb)
  go_ret
  exact own_bytes (ho.mono hb0.size) (hb4.trans (hb.mono hb0.size))
end
end Go.Proofs.YtindkpfmflcibaaGreatDoor
