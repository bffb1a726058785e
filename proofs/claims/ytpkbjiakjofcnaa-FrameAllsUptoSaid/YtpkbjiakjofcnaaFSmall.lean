/- Contracts of frame.fits, bytes.Clone, bytes.Equal, bytes.HasPrefix: for every input. -/
import Derived.Test.YtpkbjiakjofcnaaFReadInt
import Derived.Test.YtpkbjiakjofcnaaFrameMath
import Derived.Test.YtpkbjiakjofcnaaFSum
import Derived.Lib.SliceRun
namespace Go.Proofs.Ytpkbjiakjofcnaa
open Go.RowKit

def fitB (n : Int) : Bool := decide (1 ≤ n ∧ n ≤ 1048576)
theorem fitB_yes {n : Int} (h1 : 1 ≤ n) (h2 : n ≤ 1048576) : fitB n = true := by unfold fitB; simp [h1, h2]
theorem fitB_no {n : Int} (h : ¬ (1 ≤ n ∧ n ≤ 1048576)) : fitB n = false := by unfold fitB; simp only [decide_eq_false_iff_not]; exact h
theorem fits_any (n : Int) (w : World) :
    Calls Try.prog 21 #[.int .i64 n] w fun e w' => e = .returned (.bool (fitB n)) ∧ w = w' := by
  by_cases ha : 1 ≤ n
  · by_cases hb : n ≤ 1048576
    · rw [fitB_yes ha hb]
      go_enter Try.func21, Try.ntmps21
      go_wp2
      go_ret
      exact ⟨rfl, rfl⟩
    · rw [fitB_no (fun h => hb h.2)]
      go_enter Try.func21, Try.ntmps21
      go_wp2
      go_ret
      exact ⟨rfl, rfl⟩
  · rw [fitB_no (fun h => ha h.1)]
    go_enter Try.func21, Try.ntmps21
    go_wp2
    go_ret
    exact ⟨rfl, rfl⟩

set_option maxHeartbeats 400000 in
theorem clone_any (A : Option Addr) (L : List UInt8) (cap : Nat) (w : World) (hl : L.length ≤ 140737488351232) (hB : Bs w A L) (hcap : A = none → cap = 0) :
    Calls Try.prog 22 #[.slice A L.length cap] w (OwnBytes w L) := by
  obtain ⟨i0, hi, hz0, hz1, hz2⟩ := info_parts (show (Try.prog.info? 5).map (fun i => (i.zero, i.size, i.bytes)) = some (some (.int .u8 0), 1, 1) by kernel_rfl)
  have q22 : ∀ (w : World) (a : Option Addr) (n c n' c' : Nat), (binOp .eql 22 (.slice a n c) (.slice none n' c')).run Try.prog w = .ok (.bool a.isNone) w := fun w a n c n' c' => Lib.run_eql_slice_nil w _ _ a n c n' c' Try.underlying22
  cases A with
  | none =>
    obtain rfl := hcap rfl
    have h0 : L = [] := by
      cases L with
      | nil => rfl
      | cons c L => obtain ⟨b, off, e, _⟩ := hB (by simp); cases e
    subst h0
    go_enter Try.func22, Try.ntmps22
    go_wp2
    go_ret
    exact ⟨none, 0, rfl, Bs.nil _ _, fun _ => rfl, World.ownsRow_nil _ _ _ _, Below.refl _ _⟩
  | some ad =>
    have hc := bs_cells (hB.below ((Below.refl _ w).alloc (Nat.le_refl _) (.cells #[] 5)))
    have ho := bytes_one L
    have HC := Lib.hid hc
    have HO := Lib.hid ho
    have HR : (w.alloc (.cells #[] 5)).ownsRow w.heap.size 5 1 (.slice (some ⟨w.heap.size, 0, none⟩) 0 0) 0 [] :=
      ⟨rfl, .inr ⟨_, 0, _, rfl, Nat.le_refl _, heap_alloc_new w _, Nat.le_refl _, by unfold maxLen; omega, rfl, rfl⟩⟩
    clear hc ho hB hcap
    go_enter Try.func22, Try.ntmps22
    go_wp2_with (at_builtin; refine wpList_append_own _ rfl (.tmp 5) (.tmp 6) _ rfl w.heap.size 5 i0 _ 1 1 Try.underlying22 hi hz0 hz1 hz2 rfl (by omega) (.slice (some ⟨w.heap.size, 0, none⟩) 0 0) 0 [] rfl HR ad L.length cap (Lib.byteCells L) rfl (by rw [Lib.byteCells_length]; omega) HC.out HO.out (by unfold maxLen; omega) (by omega) (by simp) ?_; intro v1 w1 hown1 hg1 _)
    simp only [Nat.zero_add, List.nil_append] at hown1
    have hb1 : Below w.heap.size w w1 := ((Below.refl _ w).alloc (Nat.le_refl _) _).grown hg1 (by simp) (by simp [Value.ownBlock])
    go_ret
    exact own_bytes hown1 hb1

theorem txt_no {C L : List UInt8} (h : C ≠ L) : ((⟨C.toArray⟩ : ByteArray).toList == (⟨L.toArray⟩ : ByteArray).toList) = false := by
  rw [beq_eq_false_iff_ne, ByteArray.toList_eq, ByteArray.toList_eq]
  exact h
/-- Is M what L begins with? -/
def preB (M L : List UInt8) : Bool := decide (M <+: L)
theorem preB_yes {M L : List UInt8} (h : L.take M.length = M) : preB M L = true := by
  unfold preB; rw [decide_eq_true_iff, ← h]; exact List.take_prefix _ _
theorem preB_no {M L : List UInt8} (h : L.take M.length ≠ M) : preB M L = false := by
  unfold preB; rw [decide_eq_false_iff_not]; exact fun hp => h (List.prefix_iff_eq_take.1 hp).symm
theorem preB_long {M L : List UInt8} (h : L.length < M.length) : preB M L = false :=
  preB_no fun e => by have := congrArg List.length e; rw [List.length_take] at this; omega

theorem equal_yes (A B : Option Addr) (L : List UInt8) (ca cb : Nat) (w : World) (hA : Bs w A L) (hB : Bs w B L) :
    Calls Try.prog 46 #[.slice A L.length ca, .slice B L.length cb] w fun e w' => e = .returned (.bool true) ∧ w = w' := by
  have k1 := run_str_of (P := Try.prog) (w := w) 22 9 5 ca Try.underlying22 Try.underlying5 Try.underlying9 hA
  have k2 := run_str_of (P := Try.prog) (w := w) 22 9 5 cb Try.underlying22 Try.underlying5 Try.underlying9 hB
  clear hA hB
  generalize (⟨L.toArray⟩ : ByteArray) = txt at *
  go_enter Try.func46, Try.ntmps46
  go_wp2
  go_ret
  exact ⟨rfl, rfl⟩
theorem equal_no (A B : Option Addr) (L M : List UInt8) (ca cb : Nat) (w : World) (hA : Bs w A L) (hB : Bs w B M) (h : L ≠ M) :
    Calls Try.prog 46 #[.slice A L.length ca, .slice B M.length cb] w fun e w' => e = .returned (.bool false) ∧ w = w' := by
  have k1 := run_str_of (P := Try.prog) (w := w) 22 9 5 ca Try.underlying22 Try.underlying5 Try.underlying9 hA
  have k2 := run_str_of (P := Try.prog) (w := w) 22 9 5 cb Try.underlying22 Try.underlying5 Try.underlying9 hB
  have htx := txt_no h
  clear hA hB h
  generalize (⟨L.toArray⟩ : ByteArray) = txt1 at *
  generalize (⟨M.toArray⟩ : ByteArray) = txt2 at *
  go_enter Try.func46, Try.ntmps46
  go_wp2
  go_ret
  exact ⟨rfl, rfl⟩
set_option maxHeartbeats 400000 in
theorem prefix_any (A B : Option Addr) (L M : List UInt8) (ca cb : Nat) (w : World) (hl : L.length ≤ ca) (hm : M.length ≤ 140737488355328) (hA : Bs w A L) (hB : Bs w B M) :
    Calls Try.prog 38 #[.slice A L.length ca, .slice B M.length cb] w fun e w' => e = .returned (.bool (preB M L)) ∧ w = w' := by
  by_cases hlt : M.length ≤ L.length
  · have hT := bs_take hA M.length
    have hTl : (L.take M.length).length = M.length := by rw [List.length_take]; omega
    have hd : decide (M.length ≤ L.length) = true := by simpa using hlt
    by_cases h : L.take M.length = M
    · rw [preB_yes h]
      rw [h] at hT
      have he := equal_yes A B M ca cb w hT hB
      clear hA hB hT hTl h
      generalize L.length = n at *
      generalize M.length = m at *
      go_enter Try.func38, Try.ntmps38
      go_wp2_with fail
      refine he.mono ?_
      rintro e w' ⟨rfl, rfl⟩
      go_wp2
      go_ret
      exact ⟨rfl, rfl⟩
    · rw [preB_no h]
      have he := equal_no A B _ M ca cb w hT hB h
      rw [hTl] at he
      clear hA hB hT hTl h
      generalize L.length = n at *
      generalize M.length = m at *
      go_enter Try.func38, Try.ntmps38
      go_wp2_with fail
      refine he.mono ?_
      rintro e w' ⟨rfl, rfl⟩
      go_wp2
      go_ret
      exact ⟨rfl, rfl⟩
  · rw [preB_long (by omega)]
    have hd : decide (M.length ≤ L.length) = false := by simpa using hlt
    clear hA hB
    generalize L.length = n at *
    generalize M.length = m at *
    go_enter Try.func38, Try.ntmps38
    go_wp2
    go_ret
    exact ⟨rfl, rfl⟩
end Go.Proofs.Ytpkbjiakjofcnaa
