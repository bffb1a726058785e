/- Contract of frame.Get: the body of the frame that begins at a place, in memory of the call's own. -/
import Derived.Test.YtpkbjiakjofcnaaFLook
import Derived.Deep.RegionHeld3
namespace Go.Proofs.Ytpkbjiakjofcnaa
open Go.RowKit

def GetEnd (w : World) (X : List UInt8) (behind err : Int) (e : Ending) (w' : World) : Prop := ∃ A cap, e = .returned (.tuple #[.slice A X.length cap, .int .i64 behind, .int .i64 err]) ∧ Bs w' A X ∧ (A = none → cap = 0) ∧ Below w.heap.size w w'
/-- What holds while a place's finding is handed back. -/
structure GetS (w : World) (g : Nat) (A : Option Addr) (B : List UInt8) (cap : Nat) (behind err : Int) (w' : World) : Prop where
  blk : w'.heap[g]? = some (foundO A B.length cap behind err)
  bytes : Bs w' A B
  low : Below w.heap.size w w'
theorem GetS.next {w w1 w2 : World} {g : Nat} {A : Option Addr} {B : List UInt8} {cap : Nat} {behind err : Int} (h : GetS w g A B cap behind err w1) (hb : Below w1.heap.size w1 w2) : GetS w g A B cap behind err w2 :=
  ⟨(hb.block _ (Array.getElem?_eq_some_iff.1 h.blk).1).trans h.blk, h.bytes.below hb, h.low.trans (hb.mono h.low.size)⟩
theorem GetS.drew {w w1 : World} {g : Nat} {A : Option Addr} {B : List UInt8} {cap : Nat} {behind err : Int} (h : GetS w g A B cap behind err w1) : GetS w g A B cap behind err w1.drew :=
  ⟨h.blk, h.bytes, h.low.drew⟩
def GetC (w : World) (g : Nat) (A : Option Addr) (B : List UInt8) (cap : Nat) (behind err : Int) (w' : World) : Prop := w'.cell? ⟨g, 0, none⟩ = some (.slice A B.length cap) ∧ w'.cell? ⟨g, 1, none⟩ = some (.int .i64 behind) ∧ w'.cell? ⟨g, 2, none⟩ = some (.int .i64 err) ∧ GetS w g A B cap behind err w'
theorem GetS.cells {w w1 : World} {g : Nat} {A : Option Addr} {B : List UInt8} {cap : Nat} {behind err : Int} (h : GetS w g A B cap behind err w1) :
    w1.cell? ⟨g, 0, none⟩ = some (.slice A B.length cap) ∧ w1.cell? ⟨g, 1, none⟩ = some (.int .i64 behind) ∧ w1.cell? ⟨g, 2, none⟩ = some (.int .i64 err) ∧ GetS w g A B cap behind err w1 := by
  obtain ⟨c0, c1, c2, _⟩ := fo_cells h.blk
  exact ⟨c0, c1, c2, h⟩

set_option maxHeartbeats 1000000 in
theorem get_tail (X : Option Addr) (n ca : Nat) (v : Int) (w : World) (A : Option Addr) (B : List UInt8) (cap : Nat) (behind err : Int) (hl : B.length ≤ 140737488351232) (hcap : A = none → cap = 0)
    (hlook : Calls Try.prog 27 #[.slice X n ca, .int .i64 v] w (fun e w' => e = .returned (foundV A B.length cap behind err) ∧ Bs w' A B ∧ Below w.heap.size w w')) :
    Calls Try.prog 14 #[.slice X n ca, .int .i64 v] w (GetEnd w B behind err) := by
  go_enter Try.func14, Try.ntmps14
  go_wp2_with fail
  refine hlook.mono ?_
  rintro e w1 ⟨rfl, hB, hb⟩
  have HS : Hid (GetS w w1.heap.size A B cap behind err (w1.alloc (foundO A B.length cap behind err))) := ⟨heap_alloc_new w1 _, hB.below ((Below.refl _ w1).alloc (Nat.le_refl _) _), hb.alloc hb.size _⟩
  clear hlook hB hb
  go_wp2_with fail
  have hS0 := HS.out.drew.cells
  go_region_held3 (fun w' => w'.cell? ⟨w1.heap.size, 0, none⟩ = some (.slice A B.length cap) ∧ w'.cell? ⟨w1.heap.size, 1, none⟩ = some (.int .i64 behind) ∧ w'.cell? ⟨w1.heap.size, 2, none⟩ = some (.int .i64 err) ∧ GetS w w1.heap.size A B cap behind err w')
    (first | exact hS0 | exact hS2)
    (first | (go_at_call 22; refine (clone_any A B cap _ hl HS.out.drew.bytes hcap).mono ?_; rintro e w2 ⟨A2, cap2, rfl, hB2, hn2, _, hb2⟩; have hS2 := (HS.out.drew.next hb2).cells))
  go_wp2_with fail
  refine bodyPost_ret (v := .tuple #[.slice A2 B.length cap2, .int .i64 behind, .int .i64 err]) (by simp [results, Try.results14, go_sem]) rfl ⟨A2, cap2, rfl, hB2, hn2, hS2.2.2.2.low⟩
/-- What Get answers: the body, the place behind, why there is none. -/
def gB (L : List UInt8) (at_ : Nat) : List UInt8 := (fr (L.drop at_)).getD []
def gN (L : List UInt8) (at_ : Nat) : Int := match fr (L.drop at_) with
  | some b => ((at_ + (putF b).length : Nat) : Int)
  | none => 0
def gE (L : List UInt8) (at_ : Nat) : Int := match fr (L.drop at_) with
  | some _ => 0
  | none => if at_ = L.length then 3 else 4
theorem drop_len {L : List UInt8} : fr (L.drop L.length) = none := by rw [List.drop_length]; rfl
theorem fr_bytes {L b : List UInt8} {at_ : Nat} (h : fr (L.drop at_) = some b) : (L.drop (at_ + (headF b).length)).take b.length = b ∧ at_ + (putF b).length ≤ L.length ∧ at_ < L.length ∧ okF b := by
  obtain ⟨hok, X, e⟩ := fr_some h
  have hl := congrArg List.length e
  rw [List.length_drop, List.length_append] at hl
  have hp := putF_pos b
  refine ⟨?_, by omega, by omega, hok⟩
  rw [← List.drop_drop, e]
  unfold putF
  rw [List.append_assoc, List.drop_left, List.take_left]

/-- The slice that look hands back. -/
def fvA (A : Option Addr) (k : Nat) : Option Addr := match A with
  | some ⟨b, off, _⟩ => some ⟨b, off + k, none⟩
  | none => none
/-- What look answers at a place of the bytes. -/
def fvOf (A : Option Addr) (L : List UInt8) (ca at_ : Nat) : Value := match fr (L.drop at_) with
  | some b => foundV (fvA A (at_ + (headF b).length)) b.length (ca - (at_ + (headF b).length)) (gN L at_) 0
  | none => foundV none 0 0 0 (gE L at_)

theorem bs_some {w : World} {A : Option Addr} {L : List UInt8} (h : Bs w A L) (h0 : 0 < L.length) : ∃ b off, A = some ⟨b, off, none⟩ := by
  obtain ⟨b, off, e, _⟩ := h h0
  exact ⟨b, off, e⟩
theorem look_any (A : Option Addr) (L : List UInt8) (ca at_ : Nat) (w : World) (hl : L.length ≤ 140737488351232) (hlc : L.length ≤ ca) (hat : at_ ≤ L.length) (hB : Bs w A L) :
    Calls Try.prog 27 #[.slice A L.length ca, .int .i64 (at_ : Int)] w (Ret w (fvOf A L ca at_)) := by
  by_cases he : at_ = L.length
  · subst he
    have e : fvOf A L ca L.length = foundV none 0 0 0 3 := by unfold fvOf gE; rw [drop_len]; simp
    rw [e]
    exact look_end A L.length ca w
  · obtain ⟨b, off, rfl⟩ := bs_some hB (by omega)
    refine (look_at b off at_ L ca w hl hlc (by omega) hB).mono ?_
    rintro e w' ⟨hb, ⟨hn, rfl⟩ | ⟨c, hc, rfl⟩⟩
    · have e : fvOf (some ⟨b, off, none⟩) L ca at_ = foundV none 0 0 0 4 := by unfold fvOf gE; rw [hn]; simp [he]
      rw [e]
      exact ⟨rfl, hb⟩
    · have e : fvOf (some ⟨b, off, none⟩) L ca at_ = foundV (some ⟨b, off + (at_ + (headF c).length), none⟩) c.length (ca - (at_ + (headF c).length)) ((at_ + (putF c).length : Nat) : Int) 0 := by unfold fvOf gN; rw [hc]; rfl
      rw [e]
      exact ⟨rfl, hb⟩

theorem get_in (A : Option Addr) (L : List UInt8) (ca at_ : Nat) (w : World) (hl : L.length ≤ 140737488351232) (hlc : L.length ≤ ca) (hat : at_ ≤ L.length) (hB : Bs w A L) :
    Calls Try.prog 14 #[.slice A L.length ca, .int .i64 (at_ : Int)] w (GetEnd w (gB L at_) (gN L at_) (gE L at_)) := by
  have hk := look_any A L ca at_ w hl hlc hat hB
  unfold fvOf at hk
  cases hf : fr (L.drop at_) with
  | none =>
    rw [hf] at hk
    have e1 : gB L at_ = [] := by unfold gB; rw [hf]; rfl
    have e2 : gN L at_ = 0 := by unfold gN; rw [hf]
    rw [e1, e2]
    refine get_tail A L.length ca at_ w none [] 0 0 (gE L at_) (by simp) (fun _ => rfl) (hk.mono ?_)
    rintro e w' ⟨rfl, hb⟩
    exact ⟨rfl, Bs.nil _ _, hb⟩
  | some b =>
    rw [hf] at hk
    obtain ⟨h1, h2, h3, h4⟩ := fr_bytes hf
    obtain ⟨ob, off, rfl⟩ := bs_some hB (by omega)
    have e1 : gB L at_ = b := by unfold gB; rw [hf]; rfl
    have e3 : gE L at_ = 0 := by unfold gE; rw [hf]
    have hBB := bs_take (bs_at hB (at_ + (headF b).length)) b.length
    rw [h1] at hBB
    rw [e1, e3]
    refine get_tail _ L.length ca at_ w (some ⟨ob, off + (at_ + (headF b).length), none⟩) b (ca - (at_ + (headF b).length)) (gN L at_) 0 (by have := h4.2; omega) (fun h => by cases h) (hk.mono ?_)
    rintro e w' ⟨rfl, hb⟩
    exact ⟨rfl, hBB.below hb, hb⟩
theorem get_out (A : Option Addr) (n ca : Nat) (v : Int) (w : World) (hn : n ≤ 9223372036854775807) (hv : v < 0 ∨ (n : Int) < v) :
    Calls Try.prog 14 #[.slice A n ca, .int .i64 v] w (GetEnd w [] 0 1) := by
  refine get_tail A n ca v w none [] 0 0 1 (by simp) (fun _ => rfl) ((look_arg A n ca v w hn hv).mono ?_)
  rintro e w' ⟨rfl, hb⟩
  exact ⟨rfl, Bs.nil _ _, hb⟩
end Go.Proofs.Ytpkbjiakjofcnaa
