/- Contract of the document's own Get. -/
import Derived.Test.YtpkbjiakjofcnaaFOne
namespace Go.Proofs.Ytpkbjiakjofcnaa
open Go.RowKit

theorem refget_out (A : Option Addr) (n ca : Nat) (v : Int) (w : World) (hv : v < 0 ∨ (0 ≤ v ∧ (n : Int) < v)) :
    Calls Try.prog 15 #[.slice A n ca, .int .i64 v] w (GetEnd w [] 0 1) := by
  rcases hv with hv | ⟨hv0, hv⟩
  all_goals
    go_enter Try.func15, Try.ntmps15
    go_wp2
    exact bodyPost_ret (v := .tuple #[.slice none 0 0, .int .i64 0, .int .i64 1]) (by simp [results, Try.results15, go_sem]) rfl ⟨none, 0, rfl, Bs.nil _ _, fun _ => rfl, Below.refl _ _⟩

set_option maxHeartbeats 1000000 in
theorem refget_in (A : Option Addr) (L : List UInt8) (ca at_ : Nat) (w : World) (hl : L.length ≤ 140737488351232) (hlc : L.length ≤ ca) (hat : at_ ≤ L.length) (hB : Bs w A L) :
    Calls Try.prog 15 #[.slice A L.length ca, .int .i64 (at_ : Int)] w (GetEnd w (gB L at_) (gN L at_) (gE L at_)) := by
  by_cases he : at_ = L.length
  · subst he
    have e1 : gB L L.length = [] := by unfold gB; rw [drop_len]; rfl
    have e2 : gN L L.length = 0 := by unfold gN; rw [drop_len]
    have e3 : gE L L.length = 3 := by unfold gE; rw [drop_len]; simp
    rw [e1, e2, e3]
    clear e1 e2 e3
    go_enter Try.func15, Try.ntmps15
    go_wp2
    exact bodyPost_ret (v := .tuple #[.slice none 0 0, .int .i64 0, .int .i64 3]) (by simp [results, Try.results15, go_sem]) rfl ⟨none, 0, rfl, Bs.nil _ _, fun _ => rfl, Below.refl _ _⟩
  · have c1 := one_any A L ca at_ w hl hlc (by omega) hB
    have hne : ((at_ : Int) == (L.length : Int)) = false := by simp; omega
    clear hB
    go_enter Try.func15, Try.ntmps15
    go_wp2_with fail
    (with_reducible refine c1.mono ?_)
    rintro e w1 ⟨hb1, ⟨hf, rfl⟩ | ⟨b, A1, cap1, hf, rfl, hB1, hn1⟩⟩
    · have e1 : gB L at_ = [] := by unfold gB; rw [hf]; rfl
      have e2 : gN L at_ = 0 := by unfold gN; rw [hf]
      have e3 : gE L at_ = 4 := by unfold gE; rw [hf]; simp [he]
      have E1 := Lib.hid e1
      have E2 := Lib.hid e2
      have E3 := Lib.hid e3
      clear e1 e2 e3 c1 hf
      go_wp2_with fail
      refine bodyPost_ret (v := .tuple #[.slice none 0 0, .int .i64 0, .int .i64 4]) (by simp [results, Try.results15, go_sem]) rfl ?_
      rw [E1.out, E2.out, E3.out]
      exact ⟨none, 0, rfl, Bs.nil _ _, fun _ => rfl, hb1.alloc hb1.size _⟩
    · have e1 : gB L at_ = b := by unfold gB; rw [hf]; rfl
      have e2 : gN L at_ = ((at_ + (putF b).length : Nat) : Int) := by unfold gN; rw [hf]
      have e3 : gE L at_ = 0 := by unfold gE; rw [hf]
      have E1 := Lib.hid e1
      have E2 := Lib.hid e2
      have E3 := Lib.hid e3
      generalize ((at_ + (putF b).length : Nat) : Int) = en at E2 ⊢
      have HB1 := Lib.hid (hB1.below ((Below.refl _ w1).alloc (Nat.le_refl _) (.cells #[.int .i64 (at_ : Int), .slice A1 b.length cap1, .int .i64 en] 43)))
      clear e1 e2 e3 c1 hf hB1
      go_wp2_with fail
      go_quiet (fail)
      go_wp2_with fail
      exact bodyPost_ret (v := .tuple #[.slice A1 b.length cap1, .int .i64 en, .int .i64 0]) (by simp [results, Try.results15, go_sem]) rfl (by rw [E1.out, E2.out, E3.out]; exact ⟨A1, cap1, rfl, HB1.out, hn1, below_dn (hb1.alloc hb1.size _) _⟩)
end Go.Proofs.Ytpkbjiakjofcnaa
