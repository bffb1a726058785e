/- Several texts in one: RefOne, RefThree, RefFour, RefAll, RefPieces, RefSimple, HeldList. -/
import Derived.Test.YtindkpfmflcibaaGreatDoorGB
import Derived.Test.YtindkpfmflcibaaGreatDoorGA
import Derived.WalkSpells
import Derived.LoopN
import Derived.Deep.RegionHeld3
namespace Go.Proofs.YtindkpfmflcibaaGreatDoor
/- The contracts of the document's own look at bytes one by one (more, one): the piece that begins at a place is the one that the model's own decoding finds there. -/
section
open Go.RowKit

def byteAt (s : ByteArray) (i : Nat) : Nat := (s.get! i).toNat
theorem byteAt_lt (s : ByteArray) (i : Nat) : byteAt s i < 256 := (s.get! i).toNat_lt

set_option maxHeartbeats 400000 in
theorem more_yes (s : ByteArray) (i : Nat) (w : World) (h : i < s.size) (h1 : 128 ≤ byteAt s i) (h2 : byteAt s i ≤ 191) :
    Calls Tryz.prog 103 #[.string s, .int .i64 (i : Int)] w fun e w' => e = .returned (.tuple #[.int .i32 ((byteAt s i : Int) - 128), .bool true]) ∧ w = w' := by
  obtain ⟨x, hx⟩ : ∃ x : UInt8, s.get! i = x := ⟨_, rfl⟩
  have hsx : s[i]'h = x := by rw [← hx]; exact (Utf8W.get!_of_lt s i h).symm
  have hb : byteAt s i = x.toNat := by unfold byteAt; rw [hx]
  rw [hb] at h1 h2 ⊢
  have h1z : (128 : Int) ≤ (x.toNat : Int) := by omega
  have h2z : (x.toNat : Int) ≤ 191 := by omega
  have hz : (i : Int) < (s.size : Int) := by omega
  clear hb hx
  go_enter Tryz.func103, Tryz.ntmps103
  go_wp2
  go_ret2
  exact ⟨rfl, rfl⟩
theorem more_no (s : ByteArray) (i : Nat) (w : World) (h : ¬ (i < s.size ∧ 128 ≤ byteAt s i ∧ byteAt s i ≤ 191)) :
    Calls Tryz.prog 103 #[.string s, .int .i64 (i : Int)] w fun e w' => e = .returned (.tuple #[.int .i32 0, .bool false]) ∧ w = w' := by
  by_cases hl : i < s.size
  · obtain ⟨x, hx⟩ : ∃ x : UInt8, s.get! i = x := ⟨_, rfl⟩
    have hsx : s[i]'hl = x := by rw [← hx]; exact (Utf8W.get!_of_lt s i hl).symm
    have hb : byteAt s i = x.toNat := by unfold byteAt; rw [hx]
    rw [hb] at h
    have hz : (i : Int) < (s.size : Int) := by omega
    have hor : (x.toNat : Int) < 128 ∨ 191 < (x.toNat : Int) := by omega
    clear hb hx h
    rcases hor with h1 | h1
    all_goals
      go_enter Tryz.func103, Tryz.ntmps103
      go_wp2
      go_ret2
      exact ⟨rfl, rfl⟩
  · have hz : (s.size : Int) ≤ (i : Int) := by omega
    clear h
    go_enter Tryz.func103, Tryz.ntmps103
    go_wp2
    go_ret2
    exact ⟨rfl, rfl⟩

/-- What 'one' answers. -/
def oneV (s : ByteArray) (pos : Nat) : Value :=
  .agg #[.int .i64 (pos : Int), .int .i64 ((Utf8.decode s pos).2 : Int), .int .i32 ((Utf8.decode s pos).1 : Int), .bool (decide ((Utf8.decode s pos).1 = 65533 ∧ (Utf8.decode s pos).2 = 1))]
theorem decode_b (s : ByteArray) (pos : Nat) : Utf8.decode s pos = Lib.decodeN (s.size - pos) (byteAt s pos) (byteAt s (pos + 1)) (byteAt s (pos + 2)) (byteAt s (pos + 3)) := Lib.decode_at s pos
theorem oneV_good (s : ByteArray) (pos r k : Nat) (rz kz : Int) (h : Utf8.decode s pos = (r, k)) (hg : ¬ (r = 65533 ∧ k = 1)) (hr : rz = (r : Int)) (hk : kz = (k : Int)) : oneV s pos = .agg #[.int .i64 (pos : Int), .int .i64 kz, .int .i32 rz, .bool false] := by
  subst hr; subst hk
  unfold oneV; rw [h]; dsimp only; rw [decide_eq_false hg]
theorem oneV_bad (s : ByteArray) (pos : Nat) (h : Utf8.decode s pos = (65533, 1)) : oneV s pos = .agg #[.int .i64 (pos : Int), .int .i64 1, .int .i32 65533, .bool true] := by
  unfold oneV; rw [h]; rfl

set_option maxRecDepth 100000 in
set_option maxHeartbeats 1000000 in
theorem one_ascii (s : ByteArray) (pos : Nat) (w : World) (hp : pos < s.size) (h : byteAt s pos < 128) :
    Calls Tryz.prog 101 #[.string s, .int .i64 (pos : Int)] w fun e w' => e = .returned (oneV s pos) ∧ Below w.heap.size w w' := by
  have hd : Utf8.decode s pos = (byteAt s pos, 1) := by rw [decode_b]; exact decodeN_one _ _ _ _ _ h
  rw [oneV_good s pos _ _ (byteAt s pos : Int) 1 hd (by omega) rfl rfl]
  obtain ⟨x, hx⟩ : ∃ x : UInt8, s.get! pos = x := ⟨_, rfl⟩
  have hsx : s[pos]'hp = x := by rw [← hx]; exact (Utf8W.get!_of_lt s pos hp).symm
  have hb : byteAt s pos = x.toNat := by unfold byteAt; rw [hx]
  rw [hb] at h ⊢
  have h1z : (x.toNat : Int) < 128 := by omega
  have hz : (pos : Int) < (s.size : Int) := by omega
  clear hb hx hd
  go_enter Tryz.func101, Tryz.ntmps101
  go_wp2
  exact bodyPost_ret (v := .agg #[.int .i64 (pos : Int), .int .i64 1, .int .i32 (x.toNat : Int), .bool false]) (by simp [results, Tryz.results101, go_sem]) rfl ⟨rfl, (Below.refl _ _).alloc (Nat.le_refl _) _⟩

theorem more_yes_z (s : ByteArray) (i : Int) (n : Nat) (hi : i = (n : Int)) (w : World) (h : n < s.size) (h1 : 128 ≤ byteAt s n) (h2 : byteAt s n ≤ 191) :
    Calls Tryz.prog 103 #[.string s, .int .i64 i] w fun e w' => e = .returned (.tuple #[.int .i32 ((byteAt s n : Int) - 128), .bool true]) ∧ w = w' := by
  subst hi; exact more_yes s n w h h1 h2
theorem more_no_z (s : ByteArray) (i : Int) (n : Nat) (hi : i = (n : Int)) (w : World) (h : ¬ (n < s.size ∧ 128 ≤ byteAt s n ∧ byteAt s n ≤ 191)) :
    Calls Tryz.prog 103 #[.string s, .int .i64 i] w fun e w' => e = .returned (.tuple #[.int .i32 0, .bool false]) ∧ w = w' := by
  subst hi; exact more_no s n w h
set_option maxRecDepth 100000 in
set_option maxHeartbeats 4000000 in
theorem one_none (s : ByteArray) (pos : Nat) (w : World) (hp : pos < s.size) (h : 128 ≤ byteAt s pos) (h' : byteAt s pos < 194 ∨ 244 < byteAt s pos) :
    Calls Tryz.prog 101 #[.string s, .int .i64 (pos : Int)] w fun e w' => e = .returned (oneV s pos) ∧ Below w.heap.size w w' := by
  obtain ⟨x, hx⟩ : ∃ x : UInt8, s.get! pos = x := ⟨_, rfl⟩
  have hsx : s[pos]'hp = x := by rw [← hx]; exact (Utf8W.get!_of_lt s pos hp).symm
  have hb : byteAt s pos = x.toNat := by unfold byteAt; rw [hx]
  have hd := decode_b s pos
  have hx256 := x.toNat_lt
  rw [hb] at h h' hd
  have h1z : (128 : Int) ≤ (x.toNat : Int) := by omega
  have hz : (pos : Int) < (s.size : Int) := by omega
  have hbad := oneV_bad s pos (hd.trans (by
    rcases Lib.decodeN_shape (s.size - pos) x.toNat (byteAt s (pos + 1)) (byteAt s (pos + 2)) (byteAt s (pos + 3)) with ⟨c, e⟩ | ⟨a1, a2, a3, av, e⟩ | ⟨a1, a2, a3, a4, av, asr, e⟩ | ⟨a1, a2, a3, a4, a5, av, aw, e⟩ | e
    · omega
    · omega
    · omega
    · omega
    · exact e))
  rw [hbad]
  clear hbad hd hb hx h
  rcases h' with h' | h'
  · have h2z : (x.toNat : Int) < 194 := by omega
    clear h' hx256
    go_enter Tryz.func101, Tryz.ntmps101
    go_wp2
    refine wp_loop_rounds 1 ?_
    rw [rounds_succ]
    go_wp2
    exact bodyPost_ret (v := .agg #[.int .i64 (pos : Int), .int .i64 1, .int .i32 65533, .bool true]) (by simp [results, Tryz.results101, go_sem]) rfl ⟨rfl, (Below.refl _ _).alloc (Nat.le_refl _) _⟩
  · have h2z : (244 : Int) < (x.toNat : Int) := by omega
    clear h' hx256
    go_enter Tryz.func101, Tryz.ntmps101
    go_wp2
    refine wp_loop_rounds 1 ?_
    rw [rounds_succ]
    go_wp2
    exact bodyPost_ret (v := .agg #[.int .i64 (pos : Int), .int .i64 1, .int .i32 65533, .bool true]) (by simp [results, Tryz.results101, go_sem]) rfl ⟨rfl, (Below.refl _ _).alloc (Nat.le_refl _) _⟩

set_option maxRecDepth 100000 in
set_option maxHeartbeats 4000000 in
theorem one_two (s : ByteArray) (pos : Nat) (w : World) (hp : pos < s.size) (hs : s.size < 9223372036854775800) (h : 194 ≤ byteAt s pos) (h' : byteAt s pos ≤ 223) :
    Calls Tryz.prog 101 #[.string s, .int .i64 (pos : Int)] w fun e w' => e = .returned (oneV s pos) ∧ Below w.heap.size w w' := by
  obtain ⟨x, hx⟩ : ∃ x : UInt8, s.get! pos = x := ⟨_, rfl⟩
  have hsx : s[pos]'hp = x := by rw [← hx]; exact (Utf8W.get!_of_lt s pos hp).symm
  have hb : byteAt s pos = x.toNat := by unfold byteAt; rw [hx]
  have hd := decode_b s pos
  rw [hb] at h h' hd
  have h1z : (194 : Int) ≤ (x.toNat : Int) := by omega
  have h2z : (x.toNat : Int) ≤ 223 := by omega
  have hz : (pos : Int) < (s.size : Int) := by omega
  by_cases c1 : pos + 1 < s.size ∧ 128 ≤ byteAt s (pos + 1) ∧ byteAt s (pos + 1) ≤ 191
  · have hgood := oneV_good s pos _ _ (((x.toNat : Int) - 192) * 64 + ((byteAt s (pos + 1) : Int) - 128)) 2 (hd.trans (decodeN_two _ _ _ _ _ (by omega) (by omega) (by omega) (by omega))) (by omega) (by omega) rfl
    rw [hgood]
    have m1 := fun W => more_yes_z s ((pos : Int) + 1) (pos + 1) (by omega) W c1.1 c1.2.1 c1.2.2
    have M1 := Lib.hid m1
    have hl1 : (128 : Int) ≤ (byteAt s (pos + 1) : Int) := by omega
    have hu1 : (byteAt s (pos + 1) : Int) ≤ 191 := by omega
    clear m1
    clear hgood hd c1 hb hx h h'
    go_enter Tryz.func101, Tryz.ntmps101
    go_wp2
    refine wp_loop_rounds 2 ?_
    rw [rounds_succ]
    go_wp2_with (go_at_call 103; refine (M1.out _).mono ?_; rintro e w' ⟨rfl, rfl⟩)
    rw [rounds_succ]
    go_wp2
    exact bodyPost_ret (v := .agg #[.int .i64 (pos : Int), .int .i64 2, .int .i32 (((x.toNat : Int) - 192) * 64 + ((byteAt s (pos + 1) : Int) - 128)), .bool false]) (by simp [results, Tryz.results101, go_sem]) rfl ⟨rfl, (Below.refl _ _).alloc (Nat.le_refl _) _⟩
  · have hbad := oneV_bad s pos (hd.trans (by
      rcases Lib.decodeN_shape (s.size - pos) x.toNat (byteAt s (pos + 1)) (byteAt s (pos + 2)) (byteAt s (pos + 3)) with ⟨c, e⟩ | ⟨a1, a2, a3, av, e⟩ | ⟨a1, a2, a3, a4, av, asr, e⟩ | ⟨a1, a2, a3, a4, a5, av, aw, e⟩ | e
      · omega
      · omega
      · omega
      · omega
      · exact e))
    rw [hbad]
    clear hbad hd hb hx h h'
    have m1 := fun W => more_no_z s ((pos : Int) + 1) (pos + 1) (by omega) W c1
    have M1 := Lib.hid m1
    clear m1
    clear c1
    go_enter Tryz.func101, Tryz.ntmps101
    go_wp2
    refine wp_loop_rounds 2 ?_
    rw [rounds_succ]
    go_wp2_with (go_at_call 103; refine (M1.out _).mono ?_; rintro e w' ⟨rfl, rfl⟩)
    exact bodyPost_ret (v := .agg #[.int .i64 (pos : Int), .int .i64 1, .int .i32 65533, .bool true]) (by simp [results, Tryz.results101, go_sem]) rfl ⟨rfl, (Below.refl _ _).alloc (Nat.le_refl _) _⟩
end
/- The contract of the document's own 'one' at lead bytes of three bytes. -/
section
open Go.RowKit
set_option maxRecDepth 100000 in
set_option maxHeartbeats 4000000 in
theorem one_three (s : ByteArray) (pos : Nat) (w : World) (hp : pos < s.size) (hs : s.size < 9223372036854775800) (h : 224 ≤ byteAt s pos) (h' : byteAt s pos ≤ 239) :
    Calls Tryz.prog 101 #[.string s, .int .i64 (pos : Int)] w fun e w' => e = .returned (oneV s pos) ∧ Below w.heap.size w w' := by
  obtain ⟨x, hx⟩ : ∃ x : UInt8, s.get! pos = x := ⟨_, rfl⟩
  have hsx : s[pos]'hp = x := by rw [← hx]; exact (Utf8W.get!_of_lt s pos hp).symm
  have hb : byteAt s pos = x.toNat := by unfold byteAt; rw [hx]
  have hd := decode_b s pos
  rw [hb] at h h' hd
  have h1z : (224 : Int) ≤ (x.toNat : Int) := by omega
  have h2z : (x.toNat : Int) ≤ 239 := by omega
  have hz : (pos : Int) < (s.size : Int) := by omega
  by_cases c1 : pos + 1 < s.size ∧ 128 ≤ byteAt s (pos + 1) ∧ byteAt s (pos + 1) ≤ 191
  · by_cases c2 : pos + 2 < s.size ∧ 128 ≤ byteAt s (pos + 2) ∧ byteAt s (pos + 2) ≤ 191
    · by_cases hv : 2048 ≤ (((x.toNat : Int) - 224) * 64 + ((byteAt s (pos + 1) : Int) - 128)) * 64 + ((byteAt s (pos + 2) : Int) - 128) ∧ ((((x.toNat : Int) - 224) * 64 + ((byteAt s (pos + 1) : Int) - 128)) * 64 + ((byteAt s (pos + 2) : Int) - 128) < 55296 ∨ 57343 < (((x.toNat : Int) - 224) * 64 + ((byteAt s (pos + 1) : Int) - 128)) * 64 + ((byteAt s (pos + 2) : Int) - 128))
      · have hgood := oneV_good s pos _ _ ((((x.toNat : Int) - 224) * 64 + ((byteAt s (pos + 1) : Int) - 128)) * 64 + ((byteAt s (pos + 2) : Int) - 128)) 3 (hd.trans (decodeN_three _ _ _ _ _ (by omega) (by omega) (by omega) (by omega) (by omega) (by omega))) (by omega) (by omega) rfl
        rw [hgood]
        have m1 := fun W => more_yes_z s ((pos : Int) + 1) (pos + 1) (by omega) W c1.1 c1.2.1 c1.2.2
        have M1 := Lib.hid m1
        have hl1 : (128 : Int) ≤ (byteAt s (pos + 1) : Int) := by omega
        have hu1 : (byteAt s (pos + 1) : Int) ≤ 191 := by omega
        clear m1
        have m2 := fun W => more_yes_z s ((pos : Int) + 2) (pos + 2) (by omega) W c2.1 c2.2.1 c2.2.2
        have M2 := Lib.hid m2
        have hl2 : (128 : Int) ≤ (byteAt s (pos + 2) : Int) := by omega
        have hu2 : (byteAt s (pos + 2) : Int) ≤ 191 := by omega
        clear m2
        clear hgood hd c1 c2 hb hx h h'
        obtain ⟨hv1, hv2⟩ := hv
        rcases hv2 with hv2 | hv2
        all_goals
          go_enter Tryz.func101, Tryz.ntmps101
          go_wp2
          refine wp_loop_rounds 3 ?_
          rw [rounds_succ]
          go_wp2_with (go_at_call 103; refine (M1.out _).mono ?_; rintro e w' ⟨rfl, rfl⟩)
          rw [rounds_succ]
          go_wp2_with (go_at_call 103; refine (M2.out _).mono ?_; rintro e w' ⟨rfl, rfl⟩)
          rw [rounds_succ]
          go_wp2
          exact bodyPost_ret (v := .agg #[.int .i64 (pos : Int), .int .i64 3, .int .i32 ((((x.toNat : Int) - 224) * 64 + ((byteAt s (pos + 1) : Int) - 128)) * 64 + ((byteAt s (pos + 2) : Int) - 128)), .bool false]) (by simp [results, Tryz.results101, go_sem]) rfl ⟨rfl, (Below.refl _ _).alloc (Nat.le_refl _) _⟩
      · have hbad := oneV_bad s pos (hd.trans (by
          rcases Lib.decodeN_shape (s.size - pos) x.toNat (byteAt s (pos + 1)) (byteAt s (pos + 2)) (byteAt s (pos + 3)) with ⟨c, e⟩ | ⟨a1, a2, a3, av, e⟩ | ⟨a1, a2, a3, a4, av, asr, e⟩ | ⟨a1, a2, a3, a4, a5, av, aw, e⟩ | e
          · omega
          · omega
          · omega
          · omega
          · exact e))
        rw [hbad]
        clear hbad hd
        have m1 := fun W => more_yes_z s ((pos : Int) + 1) (pos + 1) (by omega) W c1.1 c1.2.1 c1.2.2
        have M1 := Lib.hid m1
        have hl1 : (128 : Int) ≤ (byteAt s (pos + 1) : Int) := by omega
        have hu1 : (byteAt s (pos + 1) : Int) ≤ 191 := by omega
        clear m1
        have m2 := fun W => more_yes_z s ((pos : Int) + 2) (pos + 2) (by omega) W c2.1 c2.2.1 c2.2.2
        have M2 := Lib.hid m2
        have hl2 : (128 : Int) ≤ (byteAt s (pos + 2) : Int) := by omega
        have hu2 : (byteAt s (pos + 2) : Int) ≤ 191 := by omega
        clear m2
        have hv' : (((x.toNat : Int) - 224) * 64 + ((byteAt s (pos + 1) : Int) - 128)) * 64 + ((byteAt s (pos + 2) : Int) - 128) < 2048 ∨ (55296 ≤ (((x.toNat : Int) - 224) * 64 + ((byteAt s (pos + 1) : Int) - 128)) * 64 + ((byteAt s (pos + 2) : Int) - 128) ∧ (((x.toNat : Int) - 224) * 64 + ((byteAt s (pos + 1) : Int) - 128)) * 64 + ((byteAt s (pos + 2) : Int) - 128) ≤ 57343) := by omega
        clear c1 c2 hb hx h h' hv
        rcases hv' with hv1 | ⟨hv1, hv2⟩
        all_goals
          go_enter Tryz.func101, Tryz.ntmps101
          go_wp2
          refine wp_loop_rounds 3 ?_
          rw [rounds_succ]
          go_wp2_with (go_at_call 103; refine (M1.out _).mono ?_; rintro e w' ⟨rfl, rfl⟩)
          rw [rounds_succ]
          go_wp2_with (go_at_call 103; refine (M2.out _).mono ?_; rintro e w' ⟨rfl, rfl⟩)
          rw [rounds_succ]
          go_wp2
          exact bodyPost_ret (v := .agg #[.int .i64 (pos : Int), .int .i64 1, .int .i32 65533, .bool true]) (by simp [results, Tryz.results101, go_sem]) rfl ⟨rfl, (Below.refl _ _).alloc (Nat.le_refl _) _⟩
    · have hbad := oneV_bad s pos (hd.trans (by
        rcases Lib.decodeN_shape (s.size - pos) x.toNat (byteAt s (pos + 1)) (byteAt s (pos + 2)) (byteAt s (pos + 3)) with ⟨c, e⟩ | ⟨a1, a2, a3, av, e⟩ | ⟨a1, a2, a3, a4, av, asr, e⟩ | ⟨a1, a2, a3, a4, a5, av, aw, e⟩ | e
        · omega
        · omega
        · omega
        · omega
        · exact e))
      rw [hbad]
      clear hbad hd hb hx h h'
      have m1 := fun W => more_yes_z s ((pos : Int) + 1) (pos + 1) (by omega) W c1.1 c1.2.1 c1.2.2
      have M1 := Lib.hid m1
      have hl1 : (128 : Int) ≤ (byteAt s (pos + 1) : Int) := by omega
      have hu1 : (byteAt s (pos + 1) : Int) ≤ 191 := by omega
      clear m1
      have m2 := fun W => more_no_z s ((pos : Int) + 2) (pos + 2) (by omega) W c2
      have M2 := Lib.hid m2
      clear m2
      clear c1 c2
      go_enter Tryz.func101, Tryz.ntmps101
      go_wp2
      refine wp_loop_rounds 3 ?_
      rw [rounds_succ]
      go_wp2_with (go_at_call 103; refine (M1.out _).mono ?_; rintro e w' ⟨rfl, rfl⟩)
      rw [rounds_succ]
      go_wp2_with (go_at_call 103; refine (M2.out _).mono ?_; rintro e w' ⟨rfl, rfl⟩)
      exact bodyPost_ret (v := .agg #[.int .i64 (pos : Int), .int .i64 1, .int .i32 65533, .bool true]) (by simp [results, Tryz.results101, go_sem]) rfl ⟨rfl, (Below.refl _ _).alloc (Nat.le_refl _) _⟩
  · have hbad := oneV_bad s pos (hd.trans (by
      rcases Lib.decodeN_shape (s.size - pos) x.toNat (byteAt s (pos + 1)) (byteAt s (pos + 2)) (byteAt s (pos + 3)) with ⟨c, e⟩ | ⟨a1, a2, a3, av, e⟩ | ⟨a1, a2, a3, a4, av, asr, e⟩ | ⟨a1, a2, a3, a4, a5, av, aw, e⟩ | e
      · omega
      · omega
      · omega
      · omega
      · exact e))
    rw [hbad]
    clear hbad hd hb hx h h'
    have m1 := fun W => more_no_z s ((pos : Int) + 1) (pos + 1) (by omega) W c1
    have M1 := Lib.hid m1
    clear m1
    clear c1
    go_enter Tryz.func101, Tryz.ntmps101
    go_wp2
    refine wp_loop_rounds 2 ?_
    rw [rounds_succ]
    go_wp2_with (go_at_call 103; refine (M1.out _).mono ?_; rintro e w' ⟨rfl, rfl⟩)
    exact bodyPost_ret (v := .agg #[.int .i64 (pos : Int), .int .i64 1, .int .i32 65533, .bool true]) (by simp [results, Tryz.results101, go_sem]) rfl ⟨rfl, (Below.refl _ _).alloc (Nat.le_refl _) _⟩
end
/- The contract of the document's own 'one' at lead bytes of four bytes. -/
section
open Go.RowKit
set_option maxRecDepth 100000 in
set_option maxHeartbeats 4000000 in
theorem one_four (s : ByteArray) (pos : Nat) (w : World) (hp : pos < s.size) (hs : s.size < 9223372036854775800) (h : 240 ≤ byteAt s pos) (h' : byteAt s pos ≤ 244) :
    Calls Tryz.prog 101 #[.string s, .int .i64 (pos : Int)] w fun e w' => e = .returned (oneV s pos) ∧ Below w.heap.size w w' := by
  obtain ⟨x, hx⟩ : ∃ x : UInt8, s.get! pos = x := ⟨_, rfl⟩
  have hsx : s[pos]'hp = x := by rw [← hx]; exact (Utf8W.get!_of_lt s pos hp).symm
  have hb : byteAt s pos = x.toNat := by unfold byteAt; rw [hx]
  have hd := decode_b s pos
  rw [hb] at h h' hd
  have h1z : (240 : Int) ≤ (x.toNat : Int) := by omega
  have h2z : (x.toNat : Int) ≤ 244 := by omega
  have hz : (pos : Int) < (s.size : Int) := by omega
  by_cases c1 : pos + 1 < s.size ∧ 128 ≤ byteAt s (pos + 1) ∧ byteAt s (pos + 1) ≤ 191
  · by_cases c2 : pos + 2 < s.size ∧ 128 ≤ byteAt s (pos + 2) ∧ byteAt s (pos + 2) ≤ 191
    · by_cases c3 : pos + 3 < s.size ∧ 128 ≤ byteAt s (pos + 3) ∧ byteAt s (pos + 3) ≤ 191
      · by_cases hv : 65536 ≤ ((((x.toNat : Int) - 240) * 64 + ((byteAt s (pos + 1) : Int) - 128)) * 64 + ((byteAt s (pos + 2) : Int) - 128)) * 64 + ((byteAt s (pos + 3) : Int) - 128) ∧ ((((x.toNat : Int) - 240) * 64 + ((byteAt s (pos + 1) : Int) - 128)) * 64 + ((byteAt s (pos + 2) : Int) - 128)) * 64 + ((byteAt s (pos + 3) : Int) - 128) ≤ 1114111
        · have hgood := oneV_good s pos _ _ (((((x.toNat : Int) - 240) * 64 + ((byteAt s (pos + 1) : Int) - 128)) * 64 + ((byteAt s (pos + 2) : Int) - 128)) * 64 + ((byteAt s (pos + 3) : Int) - 128)) 4 (hd.trans (decodeN_four _ _ _ _ _ (by omega) (by omega) (by omega) (by omega) (by omega) (by omega) (by omega))) (by omega) (by omega) rfl
          rw [hgood]
          have m1 := fun W => more_yes_z s ((pos : Int) + 1) (pos + 1) (by omega) W c1.1 c1.2.1 c1.2.2
          have M1 := Lib.hid m1
          have hl1 : (128 : Int) ≤ (byteAt s (pos + 1) : Int) := by omega
          have hu1 : (byteAt s (pos + 1) : Int) ≤ 191 := by omega
          clear m1
          have m2 := fun W => more_yes_z s ((pos : Int) + 2) (pos + 2) (by omega) W c2.1 c2.2.1 c2.2.2
          have M2 := Lib.hid m2
          have hl2 : (128 : Int) ≤ (byteAt s (pos + 2) : Int) := by omega
          have hu2 : (byteAt s (pos + 2) : Int) ≤ 191 := by omega
          clear m2
          have m3 := fun W => more_yes_z s ((pos : Int) + 3) (pos + 3) (by omega) W c3.1 c3.2.1 c3.2.2
          have M3 := Lib.hid m3
          have hl3 : (128 : Int) ≤ (byteAt s (pos + 3) : Int) := by omega
          have hu3 : (byteAt s (pos + 3) : Int) ≤ 191 := by omega
          clear m3
          clear hgood hd c1 c2 c3 hb hx h h'
          obtain ⟨hv1, hv2⟩ := hv
          go_enter Tryz.func101, Tryz.ntmps101
          go_wp2
          refine wp_loop_rounds 4 ?_
          rw [rounds_succ]
          go_wp2_with (go_at_call 103; refine (M1.out _).mono ?_; rintro e w' ⟨rfl, rfl⟩)
          rw [rounds_succ]
          go_wp2_with (go_at_call 103; refine (M2.out _).mono ?_; rintro e w' ⟨rfl, rfl⟩)
          rw [rounds_succ]
          go_wp2_with (go_at_call 103; refine (M3.out _).mono ?_; rintro e w' ⟨rfl, rfl⟩)
          rw [rounds_succ]
          go_wp2
          exact bodyPost_ret (v := .agg #[.int .i64 (pos : Int), .int .i64 4, .int .i32 (((((x.toNat : Int) - 240) * 64 + ((byteAt s (pos + 1) : Int) - 128)) * 64 + ((byteAt s (pos + 2) : Int) - 128)) * 64 + ((byteAt s (pos + 3) : Int) - 128)), .bool false]) (by simp [results, Tryz.results101, go_sem]) rfl ⟨rfl, (Below.refl _ _).alloc (Nat.le_refl _) _⟩
        · have hbad := oneV_bad s pos (hd.trans (by
            rcases Lib.decodeN_shape (s.size - pos) x.toNat (byteAt s (pos + 1)) (byteAt s (pos + 2)) (byteAt s (pos + 3)) with ⟨c, e⟩ | ⟨a1, a2, a3, av, e⟩ | ⟨a1, a2, a3, a4, av, asr, e⟩ | ⟨a1, a2, a3, a4, a5, av, aw, e⟩ | e
            · omega
            · omega
            · omega
            · omega
            · exact e))
          rw [hbad]
          clear hbad hd
          have m1 := fun W => more_yes_z s ((pos : Int) + 1) (pos + 1) (by omega) W c1.1 c1.2.1 c1.2.2
          have M1 := Lib.hid m1
          have hl1 : (128 : Int) ≤ (byteAt s (pos + 1) : Int) := by omega
          have hu1 : (byteAt s (pos + 1) : Int) ≤ 191 := by omega
          clear m1
          have m2 := fun W => more_yes_z s ((pos : Int) + 2) (pos + 2) (by omega) W c2.1 c2.2.1 c2.2.2
          have M2 := Lib.hid m2
          have hl2 : (128 : Int) ≤ (byteAt s (pos + 2) : Int) := by omega
          have hu2 : (byteAt s (pos + 2) : Int) ≤ 191 := by omega
          clear m2
          have m3 := fun W => more_yes_z s ((pos : Int) + 3) (pos + 3) (by omega) W c3.1 c3.2.1 c3.2.2
          have M3 := Lib.hid m3
          have hl3 : (128 : Int) ≤ (byteAt s (pos + 3) : Int) := by omega
          have hu3 : (byteAt s (pos + 3) : Int) ≤ 191 := by omega
          clear m3
          have hv' : ((((x.toNat : Int) - 240) * 64 + ((byteAt s (pos + 1) : Int) - 128)) * 64 + ((byteAt s (pos + 2) : Int) - 128)) * 64 + ((byteAt s (pos + 3) : Int) - 128) < 65536 ∨ 1114111 < ((((x.toNat : Int) - 240) * 64 + ((byteAt s (pos + 1) : Int) - 128)) * 64 + ((byteAt s (pos + 2) : Int) - 128)) * 64 + ((byteAt s (pos + 3) : Int) - 128) := by omega
          clear c1 c2 c3 hb hx h h' hv
          rcases hv' with hv1 | hv1
          all_goals
            go_enter Tryz.func101, Tryz.ntmps101
            go_wp2
            refine wp_loop_rounds 4 ?_
            rw [rounds_succ]
            go_wp2_with (go_at_call 103; refine (M1.out _).mono ?_; rintro e w' ⟨rfl, rfl⟩)
            rw [rounds_succ]
            go_wp2_with (go_at_call 103; refine (M2.out _).mono ?_; rintro e w' ⟨rfl, rfl⟩)
            rw [rounds_succ]
            go_wp2_with (go_at_call 103; refine (M3.out _).mono ?_; rintro e w' ⟨rfl, rfl⟩)
            rw [rounds_succ]
            go_wp2
            exact bodyPost_ret (v := .agg #[.int .i64 (pos : Int), .int .i64 1, .int .i32 65533, .bool true]) (by simp [results, Tryz.results101, go_sem]) rfl ⟨rfl, (Below.refl _ _).alloc (Nat.le_refl _) _⟩
      · have hbad := oneV_bad s pos (hd.trans (by
          rcases Lib.decodeN_shape (s.size - pos) x.toNat (byteAt s (pos + 1)) (byteAt s (pos + 2)) (byteAt s (pos + 3)) with ⟨c, e⟩ | ⟨a1, a2, a3, av, e⟩ | ⟨a1, a2, a3, a4, av, asr, e⟩ | ⟨a1, a2, a3, a4, a5, av, aw, e⟩ | e
          · omega
          · omega
          · omega
          · omega
          · exact e))
        rw [hbad]
        clear hbad hd hb hx h h'
        have m1 := fun W => more_yes_z s ((pos : Int) + 1) (pos + 1) (by omega) W c1.1 c1.2.1 c1.2.2
        have M1 := Lib.hid m1
        have hl1 : (128 : Int) ≤ (byteAt s (pos + 1) : Int) := by omega
        have hu1 : (byteAt s (pos + 1) : Int) ≤ 191 := by omega
        clear m1
        have m2 := fun W => more_yes_z s ((pos : Int) + 2) (pos + 2) (by omega) W c2.1 c2.2.1 c2.2.2
        have M2 := Lib.hid m2
        have hl2 : (128 : Int) ≤ (byteAt s (pos + 2) : Int) := by omega
        have hu2 : (byteAt s (pos + 2) : Int) ≤ 191 := by omega
        clear m2
        have m3 := fun W => more_no_z s ((pos : Int) + 3) (pos + 3) (by omega) W c3
        have M3 := Lib.hid m3
        clear m3
        clear c1 c2 c3
        go_enter Tryz.func101, Tryz.ntmps101
        go_wp2
        refine wp_loop_rounds 4 ?_
        rw [rounds_succ]
        go_wp2_with (go_at_call 103; refine (M1.out _).mono ?_; rintro e w' ⟨rfl, rfl⟩)
        rw [rounds_succ]
        go_wp2_with (go_at_call 103; refine (M2.out _).mono ?_; rintro e w' ⟨rfl, rfl⟩)
        rw [rounds_succ]
        go_wp2_with (go_at_call 103; refine (M3.out _).mono ?_; rintro e w' ⟨rfl, rfl⟩)
        exact bodyPost_ret (v := .agg #[.int .i64 (pos : Int), .int .i64 1, .int .i32 65533, .bool true]) (by simp [results, Tryz.results101, go_sem]) rfl ⟨rfl, (Below.refl _ _).alloc (Nat.le_refl _) _⟩
    · have hbad := oneV_bad s pos (hd.trans (by
        rcases Lib.decodeN_shape (s.size - pos) x.toNat (byteAt s (pos + 1)) (byteAt s (pos + 2)) (byteAt s (pos + 3)) with ⟨c, e⟩ | ⟨a1, a2, a3, av, e⟩ | ⟨a1, a2, a3, a4, av, asr, e⟩ | ⟨a1, a2, a3, a4, a5, av, aw, e⟩ | e
        · omega
        · omega
        · omega
        · omega
        · exact e))
      rw [hbad]
      clear hbad hd hb hx h h'
      have m1 := fun W => more_yes_z s ((pos : Int) + 1) (pos + 1) (by omega) W c1.1 c1.2.1 c1.2.2
      have M1 := Lib.hid m1
      have hl1 : (128 : Int) ≤ (byteAt s (pos + 1) : Int) := by omega
      have hu1 : (byteAt s (pos + 1) : Int) ≤ 191 := by omega
      clear m1
      have m2 := fun W => more_no_z s ((pos : Int) + 2) (pos + 2) (by omega) W c2
      have M2 := Lib.hid m2
      clear m2
      clear c1 c2
      go_enter Tryz.func101, Tryz.ntmps101
      go_wp2
      refine wp_loop_rounds 3 ?_
      rw [rounds_succ]
      go_wp2_with (go_at_call 103; refine (M1.out _).mono ?_; rintro e w' ⟨rfl, rfl⟩)
      rw [rounds_succ]
      go_wp2_with (go_at_call 103; refine (M2.out _).mono ?_; rintro e w' ⟨rfl, rfl⟩)
      exact bodyPost_ret (v := .agg #[.int .i64 (pos : Int), .int .i64 1, .int .i32 65533, .bool true]) (by simp [results, Tryz.results101, go_sem]) rfl ⟨rfl, (Below.refl _ _).alloc (Nat.le_refl _) _⟩
  · have hbad := oneV_bad s pos (hd.trans (by
      rcases Lib.decodeN_shape (s.size - pos) x.toNat (byteAt s (pos + 1)) (byteAt s (pos + 2)) (byteAt s (pos + 3)) with ⟨c, e⟩ | ⟨a1, a2, a3, av, e⟩ | ⟨a1, a2, a3, a4, av, asr, e⟩ | ⟨a1, a2, a3, a4, a5, av, aw, e⟩ | e
      · omega
      · omega
      · omega
      · omega
      · exact e))
    rw [hbad]
    clear hbad hd hb hx h h'
    have m1 := fun W => more_no_z s ((pos : Int) + 1) (pos + 1) (by omega) W c1
    have M1 := Lib.hid m1
    clear m1
    clear c1
    go_enter Tryz.func101, Tryz.ntmps101
    go_wp2
    refine wp_loop_rounds 2 ?_
    rw [rounds_succ]
    go_wp2_with (go_at_call 103; refine (M1.out _).mono ?_; rintro e w' ⟨rfl, rfl⟩)
    exact bodyPost_ret (v := .agg #[.int .i64 (pos : Int), .int .i64 1, .int .i32 65533, .bool true]) (by simp [results, Tryz.results101, go_sem]) rfl ⟨rfl, (Below.refl _ _).alloc (Nat.le_refl _) _⟩
end
/- The contract of the document's own 'one' at every byte. -/
section
open Go.RowKit
theorem one_any (s : ByteArray) (pos : Nat) (w : World) (hp : pos < s.size) (hs : s.size < 9223372036854775800) :
    Calls Tryz.prog 101 #[.string s, .int .i64 (pos : Int)] w fun e w' => e = .returned (oneV s pos) ∧ Below w.heap.size w w' := by
  by_cases h1 : byteAt s pos < 128
  · exact one_ascii s pos w hp h1
  by_cases h2 : byteAt s pos < 194 ∨ 244 < byteAt s pos
  · exact one_none s pos w hp (by omega) h2
  by_cases h3 : byteAt s pos ≤ 223
  · exact one_two s pos w hp hs (by omega) h3
  by_cases h4 : byteAt s pos ≤ 239
  · exact one_three s pos w hp hs (by omega) h4
  · exact one_four s pos w hp hs (by omega) (by omega)
end
/- The contract of the document's own Pieces: a slice of the call's own that holds each piece's place, width, rune, and whether it is a byte that is none. -/
section
open Go.RowKit

def pcCells (pos : Nat) (x : Pc) : List Value := [.int .i64 (pos : Int), .int .i64 (x.2.length : Int), .int .i32 (x.1 : Int), .bool (decide (bad x))]
def cellsFrom : Nat → List Pc → List Value
  | _, [] => []
  | pos, x :: P => pcCells pos x ++ cellsFrom (pos + x.2.length) P
theorem cellsFrom_len : ∀ (P : List Pc) (pos : Nat), (cellsFrom pos P).length = P.length * 4
  | [], _ => by simp [cellsFrom]
  | x :: P, pos => by
    unfold cellsFrom
    rw [List.length_append, cellsFrom_len P, List.length_cons]
    show 4 + _ = _
    omega
theorem cellsFrom_snoc (x : Pc) : ∀ (P : List Pc) (pos : Nat), cellsFrom pos (P ++ [x]) = cellsFrom pos P ++ pcCells (pos + (flat P).length) x
  | [], pos => by simp [cellsFrom, flat_nil]
  | y :: P, pos => by
    rw [List.cons_append]
    unfold cellsFrom
    rw [cellsFrom_snoc x P, flat_cons, List.length_append, List.append_assoc, Nat.add_assoc]
/-- The cells of one piece among them. -/
theorem cellsFrom_at : ∀ (P : List Pc) (pos k : Nat) (x : Pc), P[k]? = some x → ∀ j, j < 4 → (cellsFrom pos P)[k * 4 + j]? = (pcCells (pos + (flat (P.take k)).length) x)[j]?
  | [], pos, k, x, h, _, _ => by simp at h
  | y :: P, pos, 0, x, h, j, hj => by
    obtain rfl : y = x := by simpa using h
    unfold cellsFrom
    rw [Nat.zero_mul, Nat.zero_add, List.take_zero, flat_nil]
    exact List.getElem?_append_left (show j < 4 from hj)
  | y :: P, pos, k + 1, x, h, j, hj => by
    unfold cellsFrom
    rw [List.getElem?_append_right (by show 4 ≤ _; omega)]
    have := cellsFrom_at P (pos + y.2.length) k x (by simpa using h) j hj
    show (cellsFrom (pos + y.2.length) P)[(k + 1) * 4 + j - 4]? = _
    rw [show (k + 1) * 4 + j - 4 = k * 4 + j by omega, this, List.take_succ_cons, flat_cons, List.length_append, Nat.add_assoc]

theorem piece_at (s : ByteArray) (pos : Nat) (h : pos < s.size) : oneV s pos = .agg (pcCells pos ((Utf8.decode s pos).1, (s.data.toList.drop pos).take (Utf8.decode s pos).2)).toArray := by
  have hw := (width_in s pos h).2
  have hl : ((s.data.toList.drop pos).take (Utf8.decode s pos).2).length = (Utf8.decode s pos).2 := by
    rw [List.length_take, List.length_drop, ← Lib.size_eq]; omega
  simp only [oneV, pcCells, bad, hl]
theorem pcs_at (s : ByteArray) (pos : Nat) (h : pos < s.size) : pcs (s.data.toList.drop pos) = ((Utf8.decode s pos).1, (s.data.toList.drop pos).take (Utf8.decode s pos).2) :: pcs (s.data.toList.drop (pos + (Utf8.decode s pos).2)) := by
  rw [pcs_step _ (drop_ne s pos h), Lib.decodeL_drop, List.drop_drop]

def PiecesRel (s : ByteArray) (B : Nat) (w wr : World) (pos : Nat) (v : Value) (P : List Pc) : Prop :=
  wr.ownsRow B 120 4 v P.length (cellsFrom 0 P) ∧ Below B w wr ∧ B ≤ wr.heap.size ∧ P ++ pcs (s.data.toList.drop pos) = pcs s.data.toList ∧ (flat P).length = pos ∧ P.length ≤ pos ∧ pos ≤ s.size
def PiecesEnd (s : ByteArray) (w : World) (e : Ending) (w' : World) : Prop :=
  ∃ v, e = .returned v ∧ w'.ownsRow w.heap.size 120 4 v (pcs s.data.toList).length (cellsFrom 0 (pcs s.data.toList)) ∧ Below w.heap.size w w'

set_option maxHeartbeats 4000000 in
set_option maxRecDepth 1000000 in
theorem pieces_any (s : ByteArray) (w : World) (hs : s.size ≤ 1099511627776) :
    Calls Tryz.prog 93 #[.string s] w (PiecesEnd s w) := by
  obtain ⟨i0, hi, hz0, hz1, hz2⟩ := info_parts (show (Tryz.prog.info? 120).map (fun i => (i.zero, i.size, i.bytes)) = some (some (.agg #[.int .i64 0, .int .i64 0, .int .i32 0, .bool false]), 4, 24) by kernel_rfl)
  have h0 : PiecesRel s w.heap.size w w 0 (.slice none 0 0) [] := ⟨World.ownsRow_nil _ _ _ _, Below.refl _ _, Nat.le_refl _, rfl, rfl, Nat.le_refl _, Nat.zero_le _⟩
  have H0 := Lib.hid h0
  clear h0
  go_enter Tryz.func93, Tryz.ntmps93
  go_wp2
  go_loopw [3, 4] (fun v iv wr => ∃ pos P, PiecesRel s w.heap.size w wr pos v P ∧ iv = .int .i64 (pos : Int)) (fun _ iv _ => s.size - (Go.RowKit.intOf iv).toNat)
  case atStart => exact ⟨0, [], H0.out, rfl⟩
  case round =>
    obtain ⟨pos, P, ⟨hown, hbw, hBw, hacc, hfl, hPp, hps⟩, rfl⟩ := hrel
    have HOWN := Lib.hid hown
    have HACC := Lib.hid hacc
    have HFL := Lib.hid hfl
    clear hown hacc hfl
    by_cases hp : pos < s.size
    · have hpz : (pos : Int) < (s.size : Int) := by omega
      obtain ⟨hw1, hw2⟩ := width_in s pos hp
      have hone := one_any s pos wr hp (by omega)
      rw [piece_at s pos hp] at hone
      unfold pcCells at hone
      have hpc := pcs_at s pos hp
      obtain ⟨x, hx⟩ : ∃ x : Pc, ((Utf8.decode s pos).1, (s.data.toList.drop pos).take (Utf8.decode s pos).2) = x := ⟨_, rfl⟩
      have hxl : x.2.length = (Utf8.decode s pos).2 := by
        rw [← hx]; dsimp only
        rw [List.length_take, List.length_drop, ← Lib.size_eq]; omega
      rw [hx] at hone hpc
      have hone' : Calls Tryz.prog 101 #[.string s, .int .i64 (pos : Int)] wr fun e w' => e = .returned (.agg #[.int .i64 (pos : Int), .int .i64 (x.2.length : Int), .int .i32 (x.1 : Int), .bool (decide (bad x))]) ∧ Below wr.heap.size wr w' := hone
      have HONE := Lib.hid hone'
      have HPC := Lib.hid hpc
      have HXL := Lib.hid hxl
      have hxl' : x.2.length ≤ (Utf8.decode s pos).2 ∧ (Utf8.decode s pos).2 ≤ x.2.length := by omega
      obtain ⟨hxa, hxb⟩ := hxl'
      clear hone hone' hpc hx hxl
      go_wp2_with fail
      refine HONE.out.mono ?_
      rintro e w1 ⟨rfl, b1⟩
      have hown1 := own_later HOWN.out b1
      have hbw1 := hbw.trans (b1.mono hBw)
      have hBw1 : w.heap.size ≤ w1.heap.size := Nat.le_trans hBw b1.size
      have HOWN1 := Lib.hid hown1
      clear hown1 b1 hbw hBw
      go_wp2_with (at_builtin; refine wpList_append_own _ rfl _ _ 117 rfl w.heap.size 120 i0 _ 4 24 Tryz.underlying117 hi hz0 hz1 hz2 rfl (by decide) _ _ _ rfl ((HOWN1.out.alloc _).alloc _) ⟨w1.heap.size + 1, 0, none⟩ 1 1 [.int .i64 (pos : Int), .int .i64 (x.2.length : Int), .int .i32 (x.1 : Int), .bool (decide (bad x))] rfl rfl ?c1 ?c2 ?c3 ?c4 ?c5 ?_)
      case c1 =>
        intro j u hj
        match j, hj with
        | 0, hj => simp at hj; subst hj; simp [Addr.add]
        | 1, hj => simp at hj; subst hj; simp [Addr.add]
        | 2, hj => simp at hj; subst hj; simp [Addr.add]
        | 3, hj => simp at hj; subst hj; simp [Addr.add]
        | j + 4, hj => simp at hj
      case c2 => intro u hu; simp at hu; rcases hu with rfl | rfl | rfl | rfl <;> rfl
      case c3 => unfold maxLen; omega
      case c4 => omega
      case c5 => rw [alloc_size, alloc_size]; omega
      intro v' w2 hown' hgrow _
      have hsz1 : ((w1.alloc (.cells #[.int .i64 (pos : Int), .int .i64 (x.2.length : Int), .int .i32 (x.1 : Int), .bool (decide (bad x))] 120)).alloc (.cells #[.int .i64 (pos : Int), .int .i64 (x.2.length : Int), .int .i32 (x.1 : Int), .bool (decide (bad x))] 120)).heap.size = w1.heap.size + 2 := by rw [alloc_size, alloc_size]
      have hp2 : w2.heap[w1.heap.size]? = some (.cells #[.int .i64 (pos : Int), .int .i64 (x.2.length : Int), .int .i32 (x.1 : Int), .bool (decide (bad x))] 120) := by
        rw [hgrow.block w1.heap.size (by rw [hsz1]; omega) (fun e => by have := (HOWN1.out.lt w1.heap.size e.symm).2; omega), Below.heap_alloc _ _ _ (by rw [alloc_size]; omega)]
        exact alloc_at w1 _
      have hcell : w2.cell? ⟨w1.heap.size, 1, none⟩ = some (.int .i64 (x.2.length : Int)) := by rw [Lib.cell_of_heap hp2]; rfl
      have hbw2 : Below w.heap.size w w2 := ((hbw1.alloc hBw1 _).alloc (by rw [alloc_size]; omega) _).grown hgrow (by rw [hsz1]; omega) (fun k hk => (HOWN1.out.lt k hk).1)
      have HOWN2 := Lib.hid hown'
      clear hp2 hsz1 hown' hgrow
      go_wp2
      go_roundw
      case rel =>
        refine ⟨pos + x.2.length, P ++ [x], ⟨?_, hbw2, hbw2.size, ?_, ?_, ?_, by omega⟩, by go_num⟩
        · rw [List.length_append, cellsFrom_snoc, HFL.out, Nat.zero_add]; exact HOWN2.out
        · rw [List.append_assoc, List.singleton_append, HXL.out, ← HPC.out]; exact HACC.out
        · rw [flat_append, List.length_append, HFL.out, flat_cons, flat_nil, List.append_nil]
        · rw [List.length_append, List.length_singleton]; omega
      case measure => simp [Go.RowKit.intOf]; omega
    · have hpz : ¬ ((pos : Int) < (s.size : Int)) := by omega
      have hfin := HACC.out
      rw [drop_nil s pos hp, pcs_nil, List.append_nil] at hfin
      have HFIN := Lib.hid hfin
      clear hfin
      go_wp2
      go_ret
      have := HFIN.out
      subst this
      exact ⟨_, rfl, HOWN.out, hbw⟩
end
/- The contracts of the document's own Count and Valid. -/
section
open Go.RowKit

/-- What Pieces answers, and where each piece lies. -/
theorem pieces_slice {w : World} {B : Nat} {e : TypeId} {v : Value} {P : List Pc} (h : w.ownsRow B e 4 v P.length (cellsFrom 0 P)) :
    ∃ ao cap, v = .slice ao P.length cap ∧ P.length ≤ cap ∧ cap ≤ maxLen ∧ (0 < P.length → ∃ g, ao = some ⟨g, 0, none⟩ ∧ g < w.heap.size ∧ ∀ k x, P[k]? = some x →
      w.cell? ⟨g, k * 4, none⟩ = some (.int .i64 ((flat (P.take k)).length : Int)) ∧ w.cell? ⟨g, k * 4 + 1, none⟩ = some (.int .i64 (x.2.length : Int)) ∧ w.cell? ⟨g, k * 4 + 2, none⟩ = some (.int .i32 (x.1 : Int)) ∧ w.cell? ⟨g, k * 4 + 3, none⟩ = some (.bool (decide (bad x)))) := by
  have h' := h
  rcases h.2 with ⟨rfl, hn⟩ | ⟨g, cap, cur, rfl, hbg, hg, hnc, hcm, rest⟩
  · exact ⟨none, 0, by rw [hn], by omega, by unfold maxLen; omega, fun hp => absurd hp (by omega)⟩
  · refine ⟨_, cap, rfl, hnc, hcm, fun _ => ⟨g, rfl, (Array.getElem?_eq_some_iff.1 hg).1, fun k x hx => ?_⟩⟩
    have hc : ∀ j u, (cellsFrom 0 P)[j]? = some u → w.cell? ⟨g, j, none⟩ = some u := fun j u hu => by
      have := h'.cells (g := g) rfl j u hu
      have e : (⟨g, 0, none⟩ : Addr).add j = ⟨g, j, none⟩ := by unfold Addr.add; split <;> simp_all
      rwa [e] at this
    have hk := fun j (hj : j < 4) => cellsFrom_at P 0 k x hx j hj
    simp only [Nat.zero_add] at hk
    exact ⟨hc _ _ (hk 0 (by omega)), hc _ _ (hk 1 (by omega)), hc _ _ (hk 2 (by omega)), hc _ _ (hk 3 (by omega))⟩

set_option maxHeartbeats 400000 in
theorem refCount_any (s : ByteArray) (w : World) (hs : s.size ≤ 1099511627776) :
    Calls Tryz.prog 76 #[.string s] w fun e w' => e = .returned (.int .i64 (countL s.data.toList)) ∧ Below w.heap.size w w' := by
  go_enter Tryz.func76, Tryz.ntmps76
  go_wp2_with fail
  refine (pieces_any s _ hs).mono ?_
  rintro e w1 ⟨v, rfl, hown, b1⟩
  obtain ⟨ao, cap, rfl, -, -, -⟩ := pieces_slice hown
  clear hown
  go_wp2
  go_ret
  exact ⟨rfl, b1⟩

/-- Pieces, its list by a name. -/
def PiecesOf (P : List Pc) (w : World) (e : Ending) (w' : World) : Prop :=
  ∃ ao cap, e = .returned (.slice ao P.length cap) ∧ P.length ≤ cap ∧ Below w.heap.size w w' ∧ (0 < P.length → ∃ g, ao = some ⟨g, 0, none⟩ ∧ g < w'.heap.size ∧ ∀ k x, P[k]? = some x →
      w'.cell? ⟨g, k * 4, none⟩ = some (.int .i64 ((flat (P.take k)).length : Int)) ∧ w'.cell? ⟨g, k * 4 + 1, none⟩ = some (.int .i64 (x.2.length : Int)) ∧ w'.cell? ⟨g, k * 4 + 2, none⟩ = some (.int .i32 (x.1 : Int)) ∧ w'.cell? ⟨g, k * 4 + 3, none⟩ = some (.bool (decide (bad x))))
theorem pieces_P (s : ByteArray) (P : List Pc) (hP : pcs s.data.toList = P) (w : World) (hs : s.size ≤ 1099511627776) : Calls Tryz.prog 93 #[.string s] w (PiecesOf P w) := by
  subst hP
  refine (pieces_any s w hs).mono ?_
  rintro e w1 ⟨v, rfl, hown, b1⟩
  obtain ⟨ao, cap, rfl, hnc, -, hg⟩ := pieces_slice hown
  exact ⟨ao, cap, rfl, hnc, b1, hg⟩
theorem pieces_len (s : ByteArray) (P : List Pc) (hP : pcs s.data.toList = P) : P.length ≤ s.size := by
  have := runeCount_eq s; have h2 := Lib.runeCount_le s; unfold countL at this; rw [hP] at this; omega

set_option maxHeartbeats 1000000 in
theorem refValid_any (s : ByteArray) (w : World) (hs : s.size ≤ 1099511627776) :
    Calls Tryz.prog 75 #[.string s] w fun e w' => e = .returned (.bool (validL s.data.toList)) ∧ Below w.heap.size w w' := by
  obtain ⟨P, hP⟩ : ∃ P, pcs s.data.toList = P := ⟨_, rfl⟩
  have hcP := pieces_P s P hP w hs
  have hPs := pieces_len s P hP
  unfold validL
  rw [hP]
  obtain ⟨V, hV⟩ : ∃ V, (P.all fun x => !decide (bad x)) = V := ⟨_, rfl⟩
  rw [hV]
  have HV := Lib.hid hV
  have HCP := Lib.hid hcP
  clear hP hV hcP
  go_enter Tryz.func75, Tryz.ntmps75
  go_wp2_with fail
  refine HCP.out.mono ?_
  rintro e w1 ⟨ao, cap, rfl, hnc, b1, hg⟩
  have HG := Lib.hid hg
  clear hg
  go_wp2
  go_loop [4] (fun iv => ∃ k : Nat, iv = .int .i64 (k : Int) ∧ k ≤ P.length ∧ (P.take k).all (fun x => !decide (bad x)) = true) (fun iv => P.length - (Go.RowKit.intOf iv).toNat)
  case atStart => exact ⟨0, rfl, Nat.zero_le _, rfl⟩
  case round =>
    obtain ⟨k, rfl, hk, hall⟩ := hrel
    have HALL := Lib.hid hall
    clear hall
    by_cases hlt : k < P.length
    · obtain ⟨g, rfl, hgl, hcells⟩ := HG.out (by omega)
      obtain ⟨x, hx⟩ : ∃ x, P[k]? = some x := ⟨_, List.getElem?_eq_getElem hlt⟩
      obtain ⟨-, -, -, hc3⟩ := hcells k x hx
      have hkz : (k : Int) < (P.length : Int) := by omega
      by_cases hb : bad x
      · have hvf : V = false := by
          rw [← HV.out]
          exact List.all_eq_false.2 ⟨x, List.mem_of_getElem? hx, by simp [hb]⟩
        rw [decide_eq_true hb] at hc3
        have HVF := Lib.hid hvf
        clear hcells hx hb hvf
        go_wp2
        go_ret
        exact ⟨congrArg (fun b => Ending.returned (Value.bool b)) HVF.out.symm, b1⟩
      · have hall2 : (P.take (k + 1)).all (fun x => !decide (bad x)) = true := by
          rw [List.take_add_one, hx, List.all_append, HALL.out]
          simp [hb]
        rw [decide_eq_false hb] at hc3
        have HALL2 := Lib.hid hall2
        clear hcells hx hb hall2
        go_wp2
        exact ⟨⟨k + 1, by go_num, by omega, HALL2.out⟩, by simp only [Go.RowKit.intOf]; omega⟩
    · have hkz : ¬ ((k : Int) < (P.length : Int)) := by omega
      have hvt : V = true := by
        have := HALL.out
        rw [List.take_of_length_le (by omega)] at this
        rw [← HV.out]; exact this
      have HVT := Lib.hid hvt
      clear hvt
      go_wp2
      go_ret
      exact ⟨congrArg (fun b => Ending.returned (Value.bool b)) HVT.out.symm, b1⟩
end
/- A drawn region, taken in the text's order by hand: the laws on what may be taken first, over a list of operations that is written out. Nothing of the program. -/
section
section
variable {P : Program} {Q : Exit → Act → World → Prop} {md : Region.Mode} {S : World → Prop} {l : List Oper} {i : Nat} {o : Oper} {fuel : Nat} {listed : Array Bool} {a : Act} {w : World}
/-- What yields its value in every world that meets S is taken first. -/
theorem held_take {v : Value} (ho : l[i]? = some o) (hs : Region.noSelect l.toArray = true) (hf : Region.free md l.toArray listed i = true) (hr : (Region.ready md l.toArray listed).contains i = true)
    (hQ : ∀ c a w, Q (.panic c) (a.put o.dst v) w → Q (.panic c) a w) (hw : Region.wanted o (yielded l.toArray a.tmps) = true) (hS : S w) (hy : ∀ w, S w → (execOp a.eval o).run P w = .ok (.value v) w)
    (h : wpAnyH P md l.toArray Q S fuel (listed.setIfInBounds i true) (a.put o.dst v) w) : wpAnyH P md l.toArray Q S (fuel + 1) listed a w :=
  wpAnyH_take (by simpa using ho) hs hf hr hQ (.inl ⟨hw, hy⟩) hS h
/-- What nobody waits for is passed by. -/
theorem held_skip (ho : l[i]? = some o) (hs : Region.noSelect l.toArray = true) (hf : Region.free md l.toArray listed i = true) (hr : (Region.ready md l.toArray listed).contains i = true)
    (hQ : ∀ c a w, Q (.panic c) (a.put o.dst undef) w → Q (.panic c) a w) (hw : Region.wanted o (yielded l.toArray a.tmps) = false) (hS : S w)
    (h : wpAnyH P md l.toArray Q S fuel (listed.setIfInBounds i true) (a.put o.dst undef) w) : wpAnyH P md l.toArray Q S (fuel + 1) listed a w :=
  wpAnyH_take (by simpa using ho) hs hf hr hQ (.inr ⟨hw, rfl⟩) hS h
/-- The one that may come up comes up. -/
theorem held_one (hr : Region.ready md l.toArray listed = [i]) (ho : l[i]? = some o) (hw : Region.wanted o (yielded l.toArray a.tmps) = true)
    (h : ∀ K : Act → World → Prop, Shut (∀ a w, S w → wpAnyH P md l.toArray Q S fuel (listed.setIfInBounds i true) a w → K a w) → Oper.wp P o a w K Q) : wpAnyH P md l.toArray Q S (fuel + 1) listed a w :=
  wpAnyH_ready hr (by simp) (AllReadyH.cons (by simpa using ho) (fun K hK => by rw [if_pos hw]; exact h K (fun a w hS hh => hK a w hS fun _ => hh)) AllReadyH.nil)
/-- The same, where it only reads, in this world. -/
theorem held_read {v : Value} (hr : Region.ready md l.toArray listed = [i]) (ho : l[i]? = some o) (hw : Region.wanted o (yielded l.toArray a.tmps) = true) (hS : S w) (hy : (execOp a.eval o).run P w = .ok (.value v) w)
    (h : wpAnyH P md l.toArray Q S fuel (listed.setIfInBounds i true) (a.put o.dst v) w) : wpAnyH P md l.toArray Q S (fuel + 1) listed a w :=
  held_one hr ho hw fun K hK => by
    unfold Oper.wp
    rw [hy]
    exact hK _ _ hS h
/-- The same, at a call of a Go function. -/
theorem held_call {f : FuncId} {args : Array Value} {R : Ending → World → Prop} (hr : Region.ready md l.toArray listed = [i]) (ho : l[i]? = some o) (hw : Region.wanted o (yielded l.toArray a.tmps) = true) (hy : (execOp a.eval o).run P w = .ok (.enter f args) w)
    (hc : Calls P f args w R) (h : ∀ e w', R e w' → ∃ v, e = .returned v ∧ S w' ∧ wpAnyH P md l.toArray Q S fuel (listed.setIfInBounds i true) (a.put o.dst v) w') : wpAnyH P md l.toArray Q S (fuel + 1) listed a w :=
  held_one hr ho hw fun K hK => by
    unfold Oper.wp
    rw [hy]
    refine hc.mono fun e w' hR => ?_
    obtain ⟨v, rfl, hS, hh⟩ := h e w' hR
    exact hK _ _ hS hh
/-- The one that may come up makes memory. -/
theorem held_make {v : Value} {w' : World} (hr : Region.ready md l.toArray listed = [i]) (ho : l[i]? = some o) (hw : Region.wanted o (yielded l.toArray a.tmps) = true) (hy : (execOp a.eval o).run P w = .ok (.value v) w') (hS : S w')
    (h : wpAnyH P md l.toArray Q S fuel (listed.setIfInBounds i true) (a.put o.dst v) w') : wpAnyH P md l.toArray Q S (fuel + 1) listed a w :=
  held_one hr ho hw fun K hK => by
    unfold Oper.wp
    rw [hy]
    exact hK _ _ hS h
/-- The one that may come up panics. -/
theorem held_panic {v : Value} {w' : World} (hr : Region.ready md l.toArray listed = [i]) (ho : l[i]? = some o) (hw : Region.wanted o (yielded l.toArray a.tmps) = true) (hy : (execOp a.eval o).run P w = .halt (.panic v) w')
    (h : Q (.panic [{ v, recovered := false }]) a w') : wpAnyH P md l.toArray Q S (fuel + 1) listed a w :=
  held_one hr ho hw fun K hK => by
    unfold Oper.wp
    rw [hy]
    exact h
end
end
end Go.Proofs.YtindkpfmflcibaaGreatDoor
