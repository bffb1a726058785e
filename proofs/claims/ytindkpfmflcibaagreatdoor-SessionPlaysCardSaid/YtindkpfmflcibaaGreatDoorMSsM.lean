/- Plain mathematics of sessions: a table by ids. -/
import Derived.Test.YtindkpfmflcibaaGreatDoorMRpM
namespace Go.Proofs.YtindkpfmflcibaaGreatDoor
open Go.RowKit

/-- A session. -/
structure Se where
  id : Int
  used : Int
  seq : Int
  r : Rp
/-- A table that may be. -/
structure Tb (most : Nat) (L : List Se) : Prop where
  lo : 1 ≤ most
  hi : most ≤ 64
  len : L.length ≤ most
  up : L.Pairwise fun a b => a.id < b.id
  id : ∀ s ∈ L, 1 ≤ s.id ∧ s.id ≤ 1099511627776
  used : ∀ s ∈ L, s.id ≤ s.used ∧ s.used ≤ 1099511627776
  seq : ∀ s ∈ L, 0 ≤ s.seq ∧ s.seq ≤ 1099511627776
  rin : ∀ s ∈ L, s.r.In
  rep : ∀ s ∈ L, repB s.r = true
  zer : ∀ s ∈ L, s.seq = 0 → s.r = Rp.zero
def findS (i : Int) : List Se → Option Se
  | [] => none
  | s :: L => if s.id = i then some s else findS i L
def remS (i : Int) (L : List Se) : List Se := L.filter fun s => decide (s.id ≠ i)
def updS (i : Int) (f : Se → Se) (L : List Se) : List Se := L.map fun s => if s.id = i then f s else s
def insS (x : Se) : List Se → List Se
  | [] => [x]
  | s :: L => if x.id < s.id then x :: s :: L else s :: insS x L
def usedAt (L : List Se) (i : Nat) : Int := (L[i]?.map Se.used).getD 0
def idAt (L : List Se) (i : Nat) : Int := (L[i]?.map Se.id).getD 0
/-- Who of the first ones was used longest ago. -/
def qk (L : List Se) : Nat → Nat
  | 0 => 0
  | i + 1 => if usedAt L (i + 1) < usedAt L (qk L i) then i + 1 else qk L i
def goneS (L : List Se) : Int := idAt L (qk L (L.length - 1))
def newS (i : Int) : Se := ⟨i, i, 0, Rp.zero⟩
/-- Whether one may be opened. -/
def mayS (i : Int) (L : List Se) : Bool := wi 1 i && (findS i L).isNone
def openS (most : Nat) (i : Int) (L : List Se) : (Int × Bool) × List Se :=
  if mayS i L then if L.length < most then ((0, true), insS (newS i) L) else ((goneS L, true), insS (newS i) (remS (goneS L) L)) else ((0, false), L)
def useF (a : Int) (s : Se) : Se := { s with used := max s.used (min a 1099511627776) }
def useS (i a : Int) (L : List Se) : Bool × List Se := ((findS i L).isSome, updS i (useF a) L)
def keepF (q : Int) (r : Rp) (s : Se) : Se := { s with seq := q, r := r }
def mayK (i q : Int) (r : Rp) (L : List Se) : Bool := match findS i L with
  | none => false
  | some s => wi (s.seq + 1) q && repB r
def keepS (i q : Int) (r : Rp) (L : List Se) : Bool × List Se := if mayK i q r L then (true, updS i (keepF q r) L) else (false, L)
def lastS (i : Int) (L : List Se) : Int × Rp × Bool := match findS i L with
  | none => (0, Rp.zero, false)
  | some s => (s.seq, s.r, true)

theorem findS_mem {i : Int} {s : Se} : ∀ {L : List Se}, findS i L = some s → s ∈ L ∧ s.id = i
  | [], h => by cases h
  | t :: L, h => by
    unfold findS at h
    split at h
    · rename_i e; cases h; exact ⟨.head _, e⟩
    · exact ⟨.tail _ (findS_mem h).1, (findS_mem h).2⟩
theorem findS_none {i : Int} : ∀ {L : List Se}, findS i L = none ↔ ∀ s ∈ L, s.id ≠ i
  | [] => by simp [findS]
  | t :: L => by
    unfold findS
    split
    · rename_i e; simp [e]
    · rename_i e; rw [findS_none]; simp [e]
theorem findS_of {i : Int} {s : Se} : ∀ {L : List Se}, L.Pairwise (fun a b => a.id < b.id) → s ∈ L → s.id = i → findS i L = some s
  | [], _, h, _ => by cases h
  | t :: L, hp, h, e => by
    obtain ⟨h1, h2⟩ := List.pairwise_cons.1 hp
    unfold findS
    cases h with
    | head => rw [if_pos e]
    | tail _ h =>
      have := h1 s h
      rw [if_neg (by omega)]
      exact findS_of h2 h e
/-- The place of an id, and what stands there. -/
theorem insS_split {x : Se} : ∀ {A B : List Se}, (∀ a ∈ A, a.id < x.id) → (∀ b ∈ B, x.id < b.id) → insS x (A ++ B) = A ++ x :: B
  | [], [], _, _ => rfl
  | [], b :: B, _, h => by rw [List.nil_append]; unfold insS; rw [if_pos (h b (.head _))]; rfl
  | a :: A, B, h1, h2 => by
    have := h1 a (.head _)
    rw [List.cons_append, insS, if_neg (by omega), insS_split (fun c hc => h1 c (.tail _ hc)) h2]; rfl
theorem insS_perm (x : Se) : ∀ L : List Se, (insS x L).Perm (x :: L)
  | [] => List.Perm.refl _
  | s :: L => by
    unfold insS
    split
    · exact List.Perm.refl _
    · exact ((insS_perm x L).cons s).trans (List.Perm.swap x s L)
theorem insS_mem {x s : Se} {L : List Se} : s ∈ insS x L ↔ s = x ∨ s ∈ L := by rw [(insS_perm x L).mem_iff]; simp
theorem insS_len (x : Se) (L : List Se) : (insS x L).length = L.length + 1 := (insS_perm x L).length_eq
theorem insS_up {x : Se} : ∀ {L : List Se}, L.Pairwise (fun a b => a.id < b.id) → (∀ s ∈ L, s.id ≠ x.id) → (insS x L).Pairwise (fun a b => a.id < b.id)
  | [], _, _ => by simp [insS]
  | s :: L, hp, hn => by
    obtain ⟨h1, h2⟩ := List.pairwise_cons.1 hp
    unfold insS
    split
    · rename_i h
      exact List.pairwise_cons.2 ⟨fun b hb => by
        cases hb with
        | head => exact h
        | tail _ hb => have := h1 b hb; omega, hp⟩
    · rename_i h
      have := hn s (.head _)
      refine List.pairwise_cons.2 ⟨fun b hb => ?_, insS_up h2 fun t ht => hn t (.tail _ ht)⟩
      rcases insS_mem.1 hb with rfl | hb
      · omega
      · exact h1 b hb
theorem remS_mem {i : Int} {s : Se} {L : List Se} : s ∈ remS i L ↔ s ∈ L ∧ s.id ≠ i := by simp [remS]
theorem remS_up {i : Int} {L : List Se} (h : L.Pairwise fun a b => a.id < b.id) : (remS i L).Pairwise fun a b => a.id < b.id := h.sublist List.filter_sublist
theorem remS_none {i : Int} {L : List Se} (h : ∀ s ∈ L, s.id ≠ i) : remS i L = L := List.filter_eq_self.2 fun s hs => by simp [h s hs]
/-- What one holds when the place of an id is taken out. -/
theorem remS_split {x : Se} {A B : List Se} (h1 : ∀ a ∈ A, a.id ≠ x.id) (h2 : ∀ b ∈ B, b.id ≠ x.id) : remS x.id (A ++ x :: B) = A ++ B := by
  unfold remS
  rw [List.filter_append, List.filter_cons_of_neg (by simp)]
  have e1 := remS_none (i := x.id) h1
  have e2 := remS_none (i := x.id) h2
  unfold remS at e1 e2
  rw [e1, e2]
/-- A place of a rising row. -/
theorem up_split {L : List Se} (hp : L.Pairwise fun a b => a.id < b.id) {k : Nat} (hk : k < L.length) :
    L = L.take k ++ L[k] :: L.drop (k + 1) ∧ (∀ a ∈ L.take k, a.id < L[k].id) ∧ ∀ b ∈ L.drop (k + 1), L[k].id < b.id := by
  have e : L = L.take k ++ L[k] :: L.drop (k + 1) := by rw [← List.drop_eq_getElem_cons hk, List.take_append_drop]
  have hq := hp
  rw [e] at hq
  obtain ⟨h1, h2, h3⟩ := List.pairwise_append.1 hq
  exact ⟨e, fun a ha => h3 a ha _ (.head _), (List.pairwise_cons.1 h2).1⟩
theorem remS_at {L : List Se} (hp : L.Pairwise fun a b => a.id < b.id) {k : Nat} (hk : k < L.length) : remS L[k].id L = L.take k ++ L.drop (k + 1) := by
  obtain ⟨e, h1, h2⟩ := up_split hp hk
  have := remS_split (x := L[k]) (A := L.take k) (B := L.drop (k + 1)) (fun a ha => by have := h1 a ha; omega) (fun b hb => by have := h2 b hb; omega)
  rw [← e] at this
  exact this
theorem updS_mem {i : Int} {f : Se → Se} {t : Se} {L : List Se} (h : t ∈ updS i f L) : ∃ s ∈ L, (s.id = i ∧ t = f s) ∨ (s.id ≠ i ∧ t = s) := by
  obtain ⟨s, hs, e⟩ := List.mem_map.1 h
  refine ⟨s, hs, ?_⟩
  by_cases he : s.id = i
  · rw [if_pos he] at e; exact .inl ⟨he, e.symm⟩
  · rw [if_neg he] at e; exact .inr ⟨he, e.symm⟩
theorem updS_len (i : Int) (f : Se → Se) (L : List Se) : (updS i f L).length = L.length := List.length_map ..
theorem updS_up {i : Int} {f : Se → Se} {L : List Se} (hf : ∀ s, (f s).id = s.id) (h : L.Pairwise fun a b => a.id < b.id) : (updS i f L).Pairwise fun a b => a.id < b.id := by
  refine List.pairwise_map.2 (h.imp fun {a b} hab => ?_)
  have e : ∀ s : Se, (if s.id = i then f s else s).id = s.id := fun s => by split <;> simp [hf]
  rw [e, e]; exact hab
theorem updS_ids {i : Int} {f : Se → Se} (hf : ∀ s, (f s).id = s.id) (L : List Se) : (updS i f L).map Se.id = L.map Se.id := by
  unfold updS
  rw [List.map_map]
  refine List.map_congr_left fun s _ => ?_
  show (if s.id = i then f s else s).id = s.id
  split <;> simp [hf]
theorem updS_none {i : Int} {f : Se → Se} {L : List Se} (h : findS i L = none) : updS i f L = L := by
  have hn := findS_none.1 h
  unfold updS
  conv => rhs; rw [← List.map_id L]
  exact List.map_congr_left fun s hs => by rw [if_neg (hn s hs)]; rfl
theorem updS_at {i : Int} {f : Se → Se} {L : List Se} (hp : L.Pairwise fun a b => a.id < b.id) {k : Nat} (hk : k < L.length) (e : L[k].id = i) : updS i f L = L.set k (f L[k]) := by
  refine List.ext_getElem? fun j => ?_
  unfold updS
  rw [List.getElem?_map, List.getElem?_set]
  by_cases hj : k = j
  · subst hj
    rw [if_pos rfl, if_pos hk, List.getElem?_eq_getElem hk]
    simp [e]
  · rw [if_neg hj]
    cases hx : L[j]? with
    | none => rfl
    | some s =>
      obtain ⟨hjl, hs⟩ := List.getElem?_eq_some_iff.1 hx
      have hne : s.id ≠ i := by
        rw [← hs, ← e]
        rcases Nat.lt_or_ge k j with h | h
        · have := List.pairwise_iff_getElem.1 hp k j hk hjl h; omega
        · have := List.pairwise_iff_getElem.1 hp j k hjl hk (by omega); omega
      simp [hne]
theorem qk_lt {L : List Se} : ∀ {i : Nat}, i < L.length → qk L i < L.length
  | 0, h => h
  | i + 1, h => by
    unfold qk
    split
    · exact h
    · exact qk_lt (by omega)
theorem qk_le {L : List Se} : ∀ (i : Nat), qk L i ≤ i
  | 0 => Nat.le_refl _
  | i + 1 => by
    unfold qk
    split
    · exact Nat.le_refl _
    · exact Nat.le_succ_of_le (qk_le i)
theorem qk_min {L : List Se} : ∀ {i j : Nat}, j ≤ i → usedAt L (qk L i) ≤ usedAt L j
  | 0, j, h => by obtain rfl : j = 0 := by omega
                  exact Int.le_refl _
  | i + 1, j, h => by
    unfold qk
    split
    · rename_i hlt
      by_cases e : j = i + 1
      · rw [e]; exact Int.le_refl _
      · have := qk_min (L := L) (i := i) (j := j) (by omega); omega
    · rename_i hlt
      by_cases e : j = i + 1
      · rw [e]; omega
      · exact qk_min (by omega)
theorem gone_at {L : List Se} (h : 0 < L.length) : ∃ k, ∃ hk : k < L.length, k = qk L (L.length - 1) ∧ goneS L = L[k].id := by
  have hk := qk_lt (L := L) (i := L.length - 1) (by omega)
  refine ⟨_, hk, rfl, ?_⟩
  unfold goneS idAt
  rw [List.getElem?_eq_getElem hk]; rfl
theorem rem_len {L : List Se} (hp : L.Pairwise fun a b => a.id < b.id) (h : 0 < L.length) : (remS (goneS L) L).length = L.length - 1 := by
  obtain ⟨k, hk, -, e⟩ := gone_at h
  rw [e, remS_at hp hk, List.length_append, List.length_take, List.length_drop]; omega
theorem wi_iff {a n : Int} : wi a n = true ↔ a ≤ n ∧ n ≤ 1099511627776 := by simp [wi]
theorem wi_no {a n : Int} (h : wi a n = false) : n < a ∨ 1099511627776 < n := by
  by_cases h1 : a ≤ n
  · by_cases h2 : n ≤ 1099511627776
    · rw [wi_iff.2 ⟨h1, h2⟩] at h; cases h
    · omega
  · omega
theorem zero_in : Rp.zero.In := by unfold Rp.zero; exact ⟨by decide, by decide, by decide, by decide, by decide, by decide, by decide, by decide⟩
theorem zero_rep : repB Rp.zero = true := by decide +kernel
theorem mayS_iff {i : Int} {L : List Se} : mayS i L = true ↔ (1 ≤ i ∧ i ≤ 1099511627776) ∧ ∀ s ∈ L, s.id ≠ i := by
  unfold mayS
  rw [Bool.and_eq_true, wi_iff, Option.isNone_iff_eq_none, findS_none]
/-- A table in which one is opened. -/
theorem Tb.ins {most : Nat} {i : Int} {L : List Se} (h : Tb most L) (hl : L.length < most) (h1 : 1 ≤ i) (h2 : i ≤ 1099511627776) (hn : ∀ s ∈ L, s.id ≠ i) : Tb most (insS (newS i) L) := by
  have hm : ∀ {p : Se → Prop}, p (newS i) → (∀ s ∈ L, p s) → ∀ s ∈ insS (newS i) L, p s := fun hx hL s hs => by
    rcases insS_mem.1 hs with rfl | hs
    · exact hx
    · exact hL s hs
  refine ⟨h.lo, h.hi, by rw [insS_len]; omega, insS_up h.up hn, hm ?_ h.id, hm ?_ h.used, hm ?_ h.seq, hm zero_in h.rin, hm zero_rep h.rep, hm (fun _ => rfl) h.zer⟩
  · exact ⟨h1, h2⟩
  · exact ⟨Int.le_refl _, h2⟩
  · exact ⟨Int.le_refl _, show (0 : Int) ≤ 1099511627776 by decide⟩
theorem Tb.sub {most : Nat} {L M : List Se} (h : Tb most L) (hs : M.Sublist L) : Tb most M :=
  ⟨h.lo, h.hi, Nat.le_trans hs.length_le h.len, h.up.sublist hs, fun s hm => h.id s (hs.subset hm), fun s hm => h.used s (hs.subset hm), fun s hm => h.seq s (hs.subset hm), fun s hm => h.rin s (hs.subset hm), fun s hm => h.rep s (hs.subset hm), fun s hm => h.zer s (hs.subset hm)⟩
theorem Tb.open {most : Nat} {L : List Se} (h : Tb most L) (i : Int) : Tb most (openS most i L).2 := by
  unfold openS
  split
  · rename_i hm
    obtain ⟨⟨h1, h2⟩, hn⟩ := mayS_iff.1 hm
    split
    · rename_i hl; exact h.ins hl h1 h2 hn
    · rename_i hl
      have hlo := h.lo
      exact (h.sub List.filter_sublist).ins (by have := rem_len h.up (by omega); unfold remS at this; rw [this]; have := h.len; omega) h1 h2 fun s hs => hn s (remS_mem.1 hs).1
  · exact h
theorem Tb.upd {most : Nat} {L : List Se} (h : Tb most L) (i : Int) (f : Se → Se) (hi : ∀ s, (f s).id = s.id)
    (hf : ∀ s ∈ L, s.id = i → (s.id ≤ (f s).used ∧ (f s).used ≤ 1099511627776) ∧ (0 ≤ (f s).seq ∧ (f s).seq ≤ 1099511627776) ∧ (f s).r.In ∧ repB (f s).r = true ∧ ((f s).seq = 0 → (f s).r = Rp.zero)) : Tb most (updS i f L) := by
  refine ⟨h.lo, h.hi, by rw [updS_len]; exact h.len, updS_up hi h.up, ?_, ?_, ?_, ?_, ?_, ?_⟩
  all_goals
    intro t ht
    obtain ⟨s, hs, ⟨e, rfl⟩ | ⟨_, rfl⟩⟩ := updS_mem ht
  · rw [hi]; exact h.id s hs
  · exact h.id t hs
  · rw [hi]; exact (hf s hs e).1
  · exact h.used t hs
  · exact (hf s hs e).2.1
  · exact h.seq t hs
  · exact (hf s hs e).2.2.1
  · exact h.rin t hs
  · exact (hf s hs e).2.2.2.1
  · exact h.rep t hs
  · exact (hf s hs e).2.2.2.2
  · exact h.zer t hs
theorem Tb.use {most : Nat} {L : List Se} (h : Tb most L) (i a : Int) : Tb most (useS i a L).2 :=
  h.upd i (useF a) (fun _ => rfl) fun s hs _ => by
    have h1 := h.used s hs
    refine ⟨⟨?_, ?_⟩, h.seq s hs, h.rin s hs, h.rep s hs, h.zer s hs⟩
    · show s.id ≤ max s.used (min a 1099511627776); omega
    · show max s.used (min a 1099511627776) ≤ 1099511627776; omega
theorem Tb.keep {most : Nat} {L : List Se} (h : Tb most L) (i q : Int) (r : Rp) (hr : r.In) : Tb most (keepS i q r L).2 := by
  unfold keepS
  split
  · rename_i hm
    refine h.upd i (keepF q r) (fun _ => rfl) fun s hs e => ?_
    unfold mayK at hm
    rw [findS_of h.up hs e] at hm
    simp only [Bool.and_eq_true] at hm
    have h1 := wi_iff.1 hm.1
    have h2 := h.seq s hs
    refine ⟨h.used s hs, ⟨?_, h1.2⟩, hr, hm.2, fun e0 => ?_⟩
    · show 0 ≤ q; omega
    · have e0 : q = 0 := e0
      omega
  · exact h
end Go.Proofs.YtindkpfmflcibaaGreatDoor
