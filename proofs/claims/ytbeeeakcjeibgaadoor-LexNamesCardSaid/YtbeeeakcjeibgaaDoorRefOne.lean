/- The contracts of the document's own look at bytes one by one (more, one): the piece that begins at a place is the one that the model's own decoding finds there. -/
import Derived.Test.YtbeeeakcjeibgaaDoorFold
import Derived.Test.YtbeeeakcjeibgaaDoorWin
import Derived.WalkSpells
import Derived.LoopN
namespace Go.Proofs.YtbeeeakcjeibgaaDoor
open Go.RowKit

def byteAt (s : ByteArray) (i : Nat) : Nat := (s.get! i).toNat
theorem byteAt_lt (s : ByteArray) (i : Nat) : byteAt s i < 256 := (s.get! i).toNat_lt

set_option maxHeartbeats 400000 in
theorem more_yes (s : ByteArray) (i : Nat) (w : World) (h : i < s.size) (h1 : 128 ≤ byteAt s i) (h2 : byteAt s i ≤ 191) :
    Calls Tryd.prog 60 #[.string s, .int .i64 (i : Int)] w fun e w' => e = .returned (.tuple #[.int .i32 ((byteAt s i : Int) - 128), .bool true]) ∧ w = w' := by
  obtain ⟨x, hx⟩ : ∃ x : UInt8, s.get! i = x := ⟨_, rfl⟩
  have hsx : s[i]'h = x := by rw [← hx]; exact (Utf8W.get!_of_lt s i h).symm
  have hb : byteAt s i = x.toNat := by unfold byteAt; rw [hx]
  rw [hb] at h1 h2 ⊢
  have h1z : (128 : Int) ≤ (x.toNat : Int) := by omega
  have h2z : (x.toNat : Int) ≤ 191 := by omega
  have hz : (i : Int) < (s.size : Int) := by omega
  clear hb hx
  go_enter Tryd.func60, Tryd.ntmps60
  go_wp2
  go_ret2
  exact ⟨rfl, rfl⟩
theorem more_no (s : ByteArray) (i : Nat) (w : World) (h : ¬ (i < s.size ∧ 128 ≤ byteAt s i ∧ byteAt s i ≤ 191)) :
    Calls Tryd.prog 60 #[.string s, .int .i64 (i : Int)] w fun e w' => e = .returned (.tuple #[.int .i32 0, .bool false]) ∧ w = w' := by
  by_cases hl : i < s.size
  · obtain ⟨x, hx⟩ : ∃ x : UInt8, s.get! i = x := ⟨_, rfl⟩
    have hsx : s[i]'hl = x := by rw [← hx]; exact (Utf8W.get!_of_lt s i hl).symm
    have hb : byteAt s i = x.toNat := by unfold byteAt; rw [hx]
    rw [hb] at h
    have hz : (i : Int) < (s.size : Int) := by omega
    have hor : (x.toNat : Int) < 128 ∨ 191 < (x.toNat : Int) := by omega
    clear hb hx h
    rcases hor with h1 | h1
    all_goals
      go_enter Tryd.func60, Tryd.ntmps60
      go_wp2
      go_ret2
      exact ⟨rfl, rfl⟩
  · have hz : (s.size : Int) ≤ (i : Int) := by omega
    clear h
    go_enter Tryd.func60, Tryd.ntmps60
    go_wp2
    go_ret2
    exact ⟨rfl, rfl⟩

/-- What 'one' answers. -/
def oneV (s : ByteArray) (pos : Nat) : Value :=
  .agg #[.int .i64 (pos : Int), .int .i64 ((Utf8.decode s pos).2 : Int), .int .i32 ((Utf8.decode s pos).1 : Int), .bool (decide ((Utf8.decode s pos).1 = 65533 ∧ (Utf8.decode s pos).2 = 1))]
theorem decode_b (s : ByteArray) (pos : Nat) : Utf8.decode s pos = Lib.decodeN (s.size - pos) (byteAt s pos) (byteAt s (pos + 1)) (byteAt s (pos + 2)) (byteAt s (pos + 3)) := Lib.decode_at s pos
theorem oneV_good (s : ByteArray) (pos r k : Nat) (rz kz : Int) (h : Utf8.decode s pos = (r, k)) (hg : ¬ (r = 65533 ∧ k = 1)) (hr : rz = (r : Int)) (hk : kz = (k : Int)) : oneV s pos = .agg #[.int .i64 (pos : Int), .int .i64 kz, .int .i32 rz, .bool false] := by
  subst hr; subst hk
  unfold oneV; rw [h]; dsimp only; rw [decide_eq_false hg]
theorem oneV_bad (s : ByteArray) (pos : Nat) (h : Utf8.decode s pos = (65533, 1)) : oneV s pos = .agg #[.int .i64 (pos : Int), .int .i64 1, .int .i32 65533, .bool true] := by
  unfold oneV; rw [h]; rfl

set_option maxRecDepth 100000 in
set_option maxHeartbeats 1000000 in
theorem one_ascii (s : ByteArray) (pos : Nat) (w : World) (hp : pos < s.size) (h : byteAt s pos < 128) :
    Calls Tryd.prog 45 #[.string s, .int .i64 (pos : Int)] w fun e w' => e = .returned (oneV s pos) ∧ Below w.heap.size w w' := by
  have hd : Utf8.decode s pos = (byteAt s pos, 1) := by rw [decode_b]; exact decodeN_one _ _ _ _ _ h
  rw [oneV_good s pos _ _ (byteAt s pos : Int) 1 hd (by omega) rfl rfl]
  obtain ⟨x, hx⟩ : ∃ x : UInt8, s.get! pos = x := ⟨_, rfl⟩
  have hsx : s[pos]'hp = x := by rw [← hx]; exact (Utf8W.get!_of_lt s pos hp).symm
  have hb : byteAt s pos = x.toNat := by unfold byteAt; rw [hx]
  rw [hb] at h ⊢
  have h1z : (x.toNat : Int) < 128 := by omega
  have hz : (pos : Int) < (s.size : Int) := by omega
  clear hb hx hd
  go_enter Tryd.func45, Tryd.ntmps45
  go_wp2
  exact bodyPost_ret (v := .agg #[.int .i64 (pos : Int), .int .i64 1, .int .i32 (x.toNat : Int), .bool false]) (by simp [results, Tryd.results45, go_sem]) rfl ⟨rfl, (Below.refl _ _).alloc (Nat.le_refl _) _⟩

theorem more_yes_z (s : ByteArray) (i : Int) (n : Nat) (hi : i = (n : Int)) (w : World) (h : n < s.size) (h1 : 128 ≤ byteAt s n) (h2 : byteAt s n ≤ 191) :
    Calls Tryd.prog 60 #[.string s, .int .i64 i] w fun e w' => e = .returned (.tuple #[.int .i32 ((byteAt s n : Int) - 128), .bool true]) ∧ w = w' := by
  subst hi; exact more_yes s n w h h1 h2
theorem more_no_z (s : ByteArray) (i : Int) (n : Nat) (hi : i = (n : Int)) (w : World) (h : ¬ (n < s.size ∧ 128 ≤ byteAt s n ∧ byteAt s n ≤ 191)) :
    Calls Tryd.prog 60 #[.string s, .int .i64 i] w fun e w' => e = .returned (.tuple #[.int .i32 0, .bool false]) ∧ w = w' := by
  subst hi; exact more_no s n w h
set_option maxRecDepth 100000 in
set_option maxHeartbeats 4000000 in
theorem one_none (s : ByteArray) (pos : Nat) (w : World) (hp : pos < s.size) (h : 128 ≤ byteAt s pos) (h' : byteAt s pos < 194 ∨ 244 < byteAt s pos) :
    Calls Tryd.prog 45 #[.string s, .int .i64 (pos : Int)] w fun e w' => e = .returned (oneV s pos) ∧ Below w.heap.size w w' := by
  obtain ⟨x, hx⟩ : ∃ x : UInt8, s.get! pos = x := ⟨_, rfl⟩
  have hsx : s[pos]'hp = x := by rw [← hx]; exact (Utf8W.get!_of_lt s pos hp).symm
  have hb : byteAt s pos = x.toNat := by unfold byteAt; rw [hx]
  have hd := decode_b s pos
  have hx256 := x.toNat_lt
  rw [hb] at h h' hd
  have h1z : (128 : Int) ≤ (x.toNat : Int) := by omega
  have hz : (pos : Int) < (s.size : Int) := by omega
  have hbad := oneV_bad s pos (hd.trans (by
    rcases Lib.decodeN_shape (s.size - pos) x.toNat (byteAt s (pos + 1)) (byteAt s (pos + 2)) (byteAt s (pos + 3)) with ⟨c, e⟩ | ⟨a1, a2, a3, av, e⟩ | ⟨a1, a2, a3, a4, av, asr, e⟩ | ⟨a1, a2, a3, a4, a5, av, aw, e⟩ | e
    · omega
    · omega
    · omega
    · omega
    · exact e))
  rw [hbad]
  clear hbad hd hb hx h
  rcases h' with h' | h'
  · have h2z : (x.toNat : Int) < 194 := by omega
    clear h' hx256
    go_enter Tryd.func45, Tryd.ntmps45
    go_wp2
    refine wp_loop_rounds 1 ?_
    rw [rounds_succ]
    go_wp2
    exact bodyPost_ret (v := .agg #[.int .i64 (pos : Int), .int .i64 1, .int .i32 65533, .bool true]) (by simp [results, Tryd.results45, go_sem]) rfl ⟨rfl, (Below.refl _ _).alloc (Nat.le_refl _) _⟩
  · have h2z : (244 : Int) < (x.toNat : Int) := by omega
    clear h' hx256
    go_enter Tryd.func45, Tryd.ntmps45
    go_wp2
    refine wp_loop_rounds 1 ?_
    rw [rounds_succ]
    go_wp2
    exact bodyPost_ret (v := .agg #[.int .i64 (pos : Int), .int .i64 1, .int .i32 65533, .bool true]) (by simp [results, Tryd.results45, go_sem]) rfl ⟨rfl, (Below.refl _ _).alloc (Nat.le_refl _) _⟩

set_option maxRecDepth 100000 in
set_option maxHeartbeats 4000000 in
theorem one_two (s : ByteArray) (pos : Nat) (w : World) (hp : pos < s.size) (hs : s.size < 9223372036854775800) (h : 194 ≤ byteAt s pos) (h' : byteAt s pos ≤ 223) :
    Calls Tryd.prog 45 #[.string s, .int .i64 (pos : Int)] w fun e w' => e = .returned (oneV s pos) ∧ Below w.heap.size w w' := by
  obtain ⟨x, hx⟩ : ∃ x : UInt8, s.get! pos = x := ⟨_, rfl⟩
  have hsx : s[pos]'hp = x := by rw [← hx]; exact (Utf8W.get!_of_lt s pos hp).symm
  have hb : byteAt s pos = x.toNat := by unfold byteAt; rw [hx]
  have hd := decode_b s pos
  rw [hb] at h h' hd
  have h1z : (194 : Int) ≤ (x.toNat : Int) := by omega
  have h2z : (x.toNat : Int) ≤ 223 := by omega
  have hz : (pos : Int) < (s.size : Int) := by omega
  by_cases c1 : pos + 1 < s.size ∧ 128 ≤ byteAt s (pos + 1) ∧ byteAt s (pos + 1) ≤ 191
  · have hgood := oneV_good s pos _ _ (((x.toNat : Int) - 192) * 64 + ((byteAt s (pos + 1) : Int) - 128)) 2 (hd.trans (decodeN_two _ _ _ _ _ (by omega) (by omega) (by omega) (by omega))) (by omega) (by omega) rfl
    rw [hgood]
    have m1 := fun W => more_yes_z s ((pos : Int) + 1) (pos + 1) (by omega) W c1.1 c1.2.1 c1.2.2
    have M1 := Lib.hid m1
    have hl1 : (128 : Int) ≤ (byteAt s (pos + 1) : Int) := by omega
    have hu1 : (byteAt s (pos + 1) : Int) ≤ 191 := by omega
    clear m1
    clear hgood hd c1 hb hx h h'
    go_enter Tryd.func45, Tryd.ntmps45
    go_wp2
    refine wp_loop_rounds 2 ?_
    rw [rounds_succ]
    go_wp2_with (go_at_call 60; refine (M1.out _).mono ?_; rintro e w' ⟨rfl, rfl⟩)
    rw [rounds_succ]
    go_wp2
    exact bodyPost_ret (v := .agg #[.int .i64 (pos : Int), .int .i64 2, .int .i32 (((x.toNat : Int) - 192) * 64 + ((byteAt s (pos + 1) : Int) - 128)), .bool false]) (by simp [results, Tryd.results45, go_sem]) rfl ⟨rfl, (Below.refl _ _).alloc (Nat.le_refl _) _⟩
  · have hbad := oneV_bad s pos (hd.trans (by
      rcases Lib.decodeN_shape (s.size - pos) x.toNat (byteAt s (pos + 1)) (byteAt s (pos + 2)) (byteAt s (pos + 3)) with ⟨c, e⟩ | ⟨a1, a2, a3, av, e⟩ | ⟨a1, a2, a3, a4, av, asr, e⟩ | ⟨a1, a2, a3, a4, a5, av, aw, e⟩ | e
      · omega
      · omega
      · omega
      · omega
      · exact e))
    rw [hbad]
    clear hbad hd hb hx h h'
    have m1 := fun W => more_no_z s ((pos : Int) + 1) (pos + 1) (by omega) W c1
    have M1 := Lib.hid m1
    clear m1
    clear c1
    go_enter Tryd.func45, Tryd.ntmps45
    go_wp2
    refine wp_loop_rounds 2 ?_
    rw [rounds_succ]
    go_wp2_with (go_at_call 60; refine (M1.out _).mono ?_; rintro e w' ⟨rfl, rfl⟩)
    exact bodyPost_ret (v := .agg #[.int .i64 (pos : Int), .int .i64 1, .int .i32 65533, .bool true]) (by simp [results, Tryd.results45, go_sem]) rfl ⟨rfl, (Below.refl _ _).alloc (Nat.le_refl _) _⟩

end Go.Proofs.YtbeeeakcjeibgaaDoor
