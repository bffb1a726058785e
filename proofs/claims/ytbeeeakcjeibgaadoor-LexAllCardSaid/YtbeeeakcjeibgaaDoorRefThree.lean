/- The contract of the document's own 'one' at lead bytes of three bytes. -/
import Derived.Test.YtbeeeakcjeibgaaDoorRefOne
namespace Go.Proofs.YtbeeeakcjeibgaaDoor
open Go.RowKit
set_option maxRecDepth 100000 in
set_option maxHeartbeats 4000000 in
theorem one_three (s : ByteArray) (pos : Nat) (w : World) (hp : pos < s.size) (hs : s.size < 9223372036854775800) (h : 224 ≤ byteAt s pos) (h' : byteAt s pos ≤ 239) :
    Calls Tryd.prog 45 #[.string s, .int .i64 (pos : Int)] w fun e w' => e = .returned (oneV s pos) ∧ Below w.heap.size w w' := by
  obtain ⟨x, hx⟩ : ∃ x : UInt8, s.get! pos = x := ⟨_, rfl⟩
  have hsx : s[pos]'hp = x := by rw [← hx]; exact (Utf8W.get!_of_lt s pos hp).symm
  have hb : byteAt s pos = x.toNat := by unfold byteAt; rw [hx]
  have hd := decode_b s pos
  rw [hb] at h h' hd
  have h1z : (224 : Int) ≤ (x.toNat : Int) := by omega
  have h2z : (x.toNat : Int) ≤ 239 := by omega
  have hz : (pos : Int) < (s.size : Int) := by omega
  by_cases c1 : pos + 1 < s.size ∧ 128 ≤ byteAt s (pos + 1) ∧ byteAt s (pos + 1) ≤ 191
  · by_cases c2 : pos + 2 < s.size ∧ 128 ≤ byteAt s (pos + 2) ∧ byteAt s (pos + 2) ≤ 191
    · by_cases hv : 2048 ≤ (((x.toNat : Int) - 224) * 64 + ((byteAt s (pos + 1) : Int) - 128)) * 64 + ((byteAt s (pos + 2) : Int) - 128) ∧ ((((x.toNat : Int) - 224) * 64 + ((byteAt s (pos + 1) : Int) - 128)) * 64 + ((byteAt s (pos + 2) : Int) - 128) < 55296 ∨ 57343 < (((x.toNat : Int) - 224) * 64 + ((byteAt s (pos + 1) : Int) - 128)) * 64 + ((byteAt s (pos + 2) : Int) - 128))
      · have hgood := oneV_good s pos _ _ ((((x.toNat : Int) - 224) * 64 + ((byteAt s (pos + 1) : Int) - 128)) * 64 + ((byteAt s (pos + 2) : Int) - 128)) 3 (hd.trans (decodeN_three _ _ _ _ _ (by omega) (by omega) (by omega) (by omega) (by omega) (by omega))) (by omega) (by omega) rfl
        rw [hgood]
        have m1 := fun W => more_yes_z s ((pos : Int) + 1) (pos + 1) (by omega) W c1.1 c1.2.1 c1.2.2
        have M1 := Lib.hid m1
        have hl1 : (128 : Int) ≤ (byteAt s (pos + 1) : Int) := by omega
        have hu1 : (byteAt s (pos + 1) : Int) ≤ 191 := by omega
        clear m1
        have m2 := fun W => more_yes_z s ((pos : Int) + 2) (pos + 2) (by omega) W c2.1 c2.2.1 c2.2.2
        have M2 := Lib.hid m2
        have hl2 : (128 : Int) ≤ (byteAt s (pos + 2) : Int) := by omega
        have hu2 : (byteAt s (pos + 2) : Int) ≤ 191 := by omega
        clear m2
        clear hgood hd c1 c2 hb hx h h'
        obtain ⟨hv1, hv2⟩ := hv
        rcases hv2 with hv2 | hv2
        all_goals
          go_enter Tryd.func45, Tryd.ntmps45
          go_wp2
          refine wp_loop_rounds 3 ?_
          rw [rounds_succ]
          go_wp2_with (go_at_call 60; refine (M1.out _).mono ?_; rintro e w' ⟨rfl, rfl⟩)
          rw [rounds_succ]
          go_wp2_with (go_at_call 60; refine (M2.out _).mono ?_; rintro e w' ⟨rfl, rfl⟩)
          rw [rounds_succ]
          go_wp2
          exact bodyPost_ret (v := .agg #[.int .i64 (pos : Int), .int .i64 3, .int .i32 ((((x.toNat : Int) - 224) * 64 + ((byteAt s (pos + 1) : Int) - 128)) * 64 + ((byteAt s (pos + 2) : Int) - 128)), .bool false]) (by simp [results, Tryd.results45, go_sem]) rfl ⟨rfl, (Below.refl _ _).alloc (Nat.le_refl _) _⟩
      · have hbad := oneV_bad s pos (hd.trans (by
          rcases Lib.decodeN_shape (s.size - pos) x.toNat (byteAt s (pos + 1)) (byteAt s (pos + 2)) (byteAt s (pos + 3)) with ⟨c, e⟩ | ⟨a1, a2, a3, av, e⟩ | ⟨a1, a2, a3, a4, av, asr, e⟩ | ⟨a1, a2, a3, a4, a5, av, aw, e⟩ | e
          · omega
          · omega
          · omega
          · omega
          · exact e))
        rw [hbad]
        clear hbad hd
        have m1 := fun W => more_yes_z s ((pos : Int) + 1) (pos + 1) (by omega) W c1.1 c1.2.1 c1.2.2
        have M1 := Lib.hid m1
        have hl1 : (128 : Int) ≤ (byteAt s (pos + 1) : Int) := by omega
        have hu1 : (byteAt s (pos + 1) : Int) ≤ 191 := by omega
        clear m1
        have m2 := fun W => more_yes_z s ((pos : Int) + 2) (pos + 2) (by omega) W c2.1 c2.2.1 c2.2.2
        have M2 := Lib.hid m2
        have hl2 : (128 : Int) ≤ (byteAt s (pos + 2) : Int) := by omega
        have hu2 : (byteAt s (pos + 2) : Int) ≤ 191 := by omega
        clear m2
        have hv' : (((x.toNat : Int) - 224) * 64 + ((byteAt s (pos + 1) : Int) - 128)) * 64 + ((byteAt s (pos + 2) : Int) - 128) < 2048 ∨ (55296 ≤ (((x.toNat : Int) - 224) * 64 + ((byteAt s (pos + 1) : Int) - 128)) * 64 + ((byteAt s (pos + 2) : Int) - 128) ∧ (((x.toNat : Int) - 224) * 64 + ((byteAt s (pos + 1) : Int) - 128)) * 64 + ((byteAt s (pos + 2) : Int) - 128) ≤ 57343) := by omega
        clear c1 c2 hb hx h h' hv
        rcases hv' with hv1 | ⟨hv1, hv2⟩
        all_goals
          go_enter Tryd.func45, Tryd.ntmps45
          go_wp2
          refine wp_loop_rounds 3 ?_
          rw [rounds_succ]
          go_wp2_with (go_at_call 60; refine (M1.out _).mono ?_; rintro e w' ⟨rfl, rfl⟩)
          rw [rounds_succ]
          go_wp2_with (go_at_call 60; refine (M2.out _).mono ?_; rintro e w' ⟨rfl, rfl⟩)
          rw [rounds_succ]
          go_wp2
          exact bodyPost_ret (v := .agg #[.int .i64 (pos : Int), .int .i64 1, .int .i32 65533, .bool true]) (by simp [results, Tryd.results45, go_sem]) rfl ⟨rfl, (Below.refl _ _).alloc (Nat.le_refl _) _⟩
    · have hbad := oneV_bad s pos (hd.trans (by
        rcases Lib.decodeN_shape (s.size - pos) x.toNat (byteAt s (pos + 1)) (byteAt s (pos + 2)) (byteAt s (pos + 3)) with ⟨c, e⟩ | ⟨a1, a2, a3, av, e⟩ | ⟨a1, a2, a3, a4, av, asr, e⟩ | ⟨a1, a2, a3, a4, a5, av, aw, e⟩ | e
        · omega
        · omega
        · omega
        · omega
        · exact e))
      rw [hbad]
      clear hbad hd hb hx h h'
      have m1 := fun W => more_yes_z s ((pos : Int) + 1) (pos + 1) (by omega) W c1.1 c1.2.1 c1.2.2
      have M1 := Lib.hid m1
      have hl1 : (128 : Int) ≤ (byteAt s (pos + 1) : Int) := by omega
      have hu1 : (byteAt s (pos + 1) : Int) ≤ 191 := by omega
      clear m1
      have m2 := fun W => more_no_z s ((pos : Int) + 2) (pos + 2) (by omega) W c2
      have M2 := Lib.hid m2
      clear m2
      clear c1 c2
      go_enter Tryd.func45, Tryd.ntmps45
      go_wp2
      refine wp_loop_rounds 3 ?_
      rw [rounds_succ]
      go_wp2_with (go_at_call 60; refine (M1.out _).mono ?_; rintro e w' ⟨rfl, rfl⟩)
      rw [rounds_succ]
      go_wp2_with (go_at_call 60; refine (M2.out _).mono ?_; rintro e w' ⟨rfl, rfl⟩)
      exact bodyPost_ret (v := .agg #[.int .i64 (pos : Int), .int .i64 1, .int .i32 65533, .bool true]) (by simp [results, Tryd.results45, go_sem]) rfl ⟨rfl, (Below.refl _ _).alloc (Nat.le_refl _) _⟩
  · have hbad := oneV_bad s pos (hd.trans (by
      rcases Lib.decodeN_shape (s.size - pos) x.toNat (byteAt s (pos + 1)) (byteAt s (pos + 2)) (byteAt s (pos + 3)) with ⟨c, e⟩ | ⟨a1, a2, a3, av, e⟩ | ⟨a1, a2, a3, a4, av, asr, e⟩ | ⟨a1, a2, a3, a4, a5, av, aw, e⟩ | e
      · omega
      · omega
      · omega
      · omega
      · exact e))
    rw [hbad]
    clear hbad hd hb hx h h'
    have m1 := fun W => more_no_z s ((pos : Int) + 1) (pos + 1) (by omega) W c1
    have M1 := Lib.hid m1
    clear m1
    clear c1
    go_enter Tryd.func45, Tryd.ntmps45
    go_wp2
    refine wp_loop_rounds 2 ?_
    rw [rounds_succ]
    go_wp2_with (go_at_call 60; refine (M1.out _).mono ?_; rintro e w' ⟨rfl, rfl⟩)
    exact bodyPost_ret (v := .agg #[.int .i64 (pos : Int), .int .i64 1, .int .i32 65533, .bool true]) (by simp [results, Tryd.results45, go_sem]) rfl ⟨rfl, (Below.refl _ _).alloc (Nat.le_refl _) _⟩

end Go.Proofs.YtbeeeakcjeibgaaDoor
