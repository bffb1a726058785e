/- The contract of the document's own 'one' at lead bytes of four bytes. -/
import Derived.Test.YtbeeeakcjeibgaaDoorRefOne
namespace Go.Proofs.YtbeeeakcjeibgaaDoor
open Go.RowKit
set_option maxRecDepth 100000 in
set_option maxHeartbeats 4000000 in
theorem one_four (s : ByteArray) (pos : Nat) (w : World) (hp : pos < s.size) (hs : s.size < 9223372036854775800) (h : 240 ≤ byteAt s pos) (h' : byteAt s pos ≤ 244) :
    Calls Tryd.prog 45 #[.string s, .int .i64 (pos : Int)] w fun e w' => e = .returned (oneV s pos) ∧ Below w.heap.size w w' := by
  obtain ⟨x, hx⟩ : ∃ x : UInt8, s.get! pos = x := ⟨_, rfl⟩
  have hsx : s[pos]'hp = x := by rw [← hx]; exact (Utf8W.get!_of_lt s pos hp).symm
  have hb : byteAt s pos = x.toNat := by unfold byteAt; rw [hx]
  have hd := decode_b s pos
  rw [hb] at h h' hd
  have h1z : (240 : Int) ≤ (x.toNat : Int) := by omega
  have h2z : (x.toNat : Int) ≤ 244 := by omega
  have hz : (pos : Int) < (s.size : Int) := by omega
  by_cases c1 : pos + 1 < s.size ∧ 128 ≤ byteAt s (pos + 1) ∧ byteAt s (pos + 1) ≤ 191
  · by_cases c2 : pos + 2 < s.size ∧ 128 ≤ byteAt s (pos + 2) ∧ byteAt s (pos + 2) ≤ 191
    · by_cases c3 : pos + 3 < s.size ∧ 128 ≤ byteAt s (pos + 3) ∧ byteAt s (pos + 3) ≤ 191
      · by_cases hv : 65536 ≤ ((((x.toNat : Int) - 240) * 64 + ((byteAt s (pos + 1) : Int) - 128)) * 64 + ((byteAt s (pos + 2) : Int) - 128)) * 64 + ((byteAt s (pos + 3) : Int) - 128) ∧ ((((x.toNat : Int) - 240) * 64 + ((byteAt s (pos + 1) : Int) - 128)) * 64 + ((byteAt s (pos + 2) : Int) - 128)) * 64 + ((byteAt s (pos + 3) : Int) - 128) ≤ 1114111
        · have hgood := oneV_good s pos _ _ (((((x.toNat : Int) - 240) * 64 + ((byteAt s (pos + 1) : Int) - 128)) * 64 + ((byteAt s (pos + 2) : Int) - 128)) * 64 + ((byteAt s (pos + 3) : Int) - 128)) 4 (hd.trans (decodeN_four _ _ _ _ _ (by omega) (by omega) (by omega) (by omega) (by omega) (by omega) (by omega))) (by omega) (by omega) rfl
          rw [hgood]
          have m1 := fun W => more_yes_z s ((pos : Int) + 1) (pos + 1) (by omega) W c1.1 c1.2.1 c1.2.2
          have M1 := Lib.hid m1
          have hl1 : (128 : Int) ≤ (byteAt s (pos + 1) : Int) := by omega
          have hu1 : (byteAt s (pos + 1) : Int) ≤ 191 := by omega
          clear m1
          have m2 := fun W => more_yes_z s ((pos : Int) + 2) (pos + 2) (by omega) W c2.1 c2.2.1 c2.2.2
          have M2 := Lib.hid m2
          have hl2 : (128 : Int) ≤ (byteAt s (pos + 2) : Int) := by omega
          have hu2 : (byteAt s (pos + 2) : Int) ≤ 191 := by omega
          clear m2
          have m3 := fun W => more_yes_z s ((pos : Int) + 3) (pos + 3) (by omega) W c3.1 c3.2.1 c3.2.2
          have M3 := Lib.hid m3
          have hl3 : (128 : Int) ≤ (byteAt s (pos + 3) : Int) := by omega
          have hu3 : (byteAt s (pos + 3) : Int) ≤ 191 := by omega
          clear m3
          clear hgood hd c1 c2 c3 hb hx h h'
          obtain ⟨hv1, hv2⟩ := hv
          go_enter Tryd.func45, Tryd.ntmps45
          go_wp2
          refine wp_loop_rounds 4 ?_
          rw [rounds_succ]
          go_wp2_with (go_at_call 60; refine (M1.out _).mono ?_; rintro e w' ⟨rfl, rfl⟩)
          rw [rounds_succ]
          go_wp2_with (go_at_call 60; refine (M2.out _).mono ?_; rintro e w' ⟨rfl, rfl⟩)
          rw [rounds_succ]
          go_wp2_with (go_at_call 60; refine (M3.out _).mono ?_; rintro e w' ⟨rfl, rfl⟩)
          rw [rounds_succ]
          go_wp2
          exact bodyPost_ret (v := .agg #[.int .i64 (pos : Int), .int .i64 4, .int .i32 (((((x.toNat : Int) - 240) * 64 + ((byteAt s (pos + 1) : Int) - 128)) * 64 + ((byteAt s (pos + 2) : Int) - 128)) * 64 + ((byteAt s (pos + 3) : Int) - 128)), .bool false]) (by simp [results, Tryd.results45, go_sem]) rfl ⟨rfl, (Below.refl _ _).alloc (Nat.le_refl _) _⟩
        · have hbad := oneV_bad s pos (hd.trans (by
            rcases Lib.decodeN_shape (s.size - pos) x.toNat (byteAt s (pos + 1)) (byteAt s (pos + 2)) (byteAt s (pos + 3)) with ⟨c, e⟩ | ⟨a1, a2, a3, av, e⟩ | ⟨a1, a2, a3, a4, av, asr, e⟩ | ⟨a1, a2, a3, a4, a5, av, aw, e⟩ | e
            · omega
            · omega
            · omega
            · omega
            · exact e))
          rw [hbad]
          clear hbad hd
          have m1 := fun W => more_yes_z s ((pos : Int) + 1) (pos + 1) (by omega) W c1.1 c1.2.1 c1.2.2
          have M1 := Lib.hid m1
          have hl1 : (128 : Int) ≤ (byteAt s (pos + 1) : Int) := by omega
          have hu1 : (byteAt s (pos + 1) : Int) ≤ 191 := by omega
          clear m1
          have m2 := fun W => more_yes_z s ((pos : Int) + 2) (pos + 2) (by omega) W c2.1 c2.2.1 c2.2.2
          have M2 := Lib.hid m2
          have hl2 : (128 : Int) ≤ (byteAt s (pos + 2) : Int) := by omega
          have hu2 : (byteAt s (pos + 2) : Int) ≤ 191 := by omega
          clear m2
          have m3 := fun W => more_yes_z s ((pos : Int) + 3) (pos + 3) (by omega) W c3.1 c3.2.1 c3.2.2
          have M3 := Lib.hid m3
          have hl3 : (128 : Int) ≤ (byteAt s (pos + 3) : Int) := by omega
          have hu3 : (byteAt s (pos + 3) : Int) ≤ 191 := by omega
          clear m3
          have hv' : ((((x.toNat : Int) - 240) * 64 + ((byteAt s (pos + 1) : Int) - 128)) * 64 + ((byteAt s (pos + 2) : Int) - 128)) * 64 + ((byteAt s (pos + 3) : Int) - 128) < 65536 ∨ 1114111 < ((((x.toNat : Int) - 240) * 64 + ((byteAt s (pos + 1) : Int) - 128)) * 64 + ((byteAt s (pos + 2) : Int) - 128)) * 64 + ((byteAt s (pos + 3) : Int) - 128) := by omega
          clear c1 c2 c3 hb hx h h' hv
          rcases hv' with hv1 | hv1
          all_goals
            go_enter Tryd.func45, Tryd.ntmps45
            go_wp2
            refine wp_loop_rounds 4 ?_
            rw [rounds_succ]
            go_wp2_with (go_at_call 60; refine (M1.out _).mono ?_; rintro e w' ⟨rfl, rfl⟩)
            rw [rounds_succ]
            go_wp2_with (go_at_call 60; refine (M2.out _).mono ?_; rintro e w' ⟨rfl, rfl⟩)
            rw [rounds_succ]
            go_wp2_with (go_at_call 60; refine (M3.out _).mono ?_; rintro e w' ⟨rfl, rfl⟩)
            rw [rounds_succ]
            go_wp2
            exact bodyPost_ret (v := .agg #[.int .i64 (pos : Int), .int .i64 1, .int .i32 65533, .bool true]) (by simp [results, Tryd.results45, go_sem]) rfl ⟨rfl, (Below.refl _ _).alloc (Nat.le_refl _) _⟩
      · have hbad := oneV_bad s pos (hd.trans (by
          rcases Lib.decodeN_shape (s.size - pos) x.toNat (byteAt s (pos + 1)) (byteAt s (pos + 2)) (byteAt s (pos + 3)) with ⟨c, e⟩ | ⟨a1, a2, a3, av, e⟩ | ⟨a1, a2, a3, a4, av, asr, e⟩ | ⟨a1, a2, a3, a4, a5, av, aw, e⟩ | e
          · omega
          · omega
          · omega
          · omega
          · exact e))
        rw [hbad]
        clear hbad hd hb hx h h'
        have m1 := fun W => more_yes_z s ((pos : Int) + 1) (pos + 1) (by omega) W c1.1 c1.2.1 c1.2.2
        have M1 := Lib.hid m1
        have hl1 : (128 : Int) ≤ (byteAt s (pos + 1) : Int) := by omega
        have hu1 : (byteAt s (pos + 1) : Int) ≤ 191 := by omega
        clear m1
        have m2 := fun W => more_yes_z s ((pos : Int) + 2) (pos + 2) (by omega) W c2.1 c2.2.1 c2.2.2
        have M2 := Lib.hid m2
        have hl2 : (128 : Int) ≤ (byteAt s (pos + 2) : Int) := by omega
        have hu2 : (byteAt s (pos + 2) : Int) ≤ 191 := by omega
        clear m2
        have m3 := fun W => more_no_z s ((pos : Int) + 3) (pos + 3) (by omega) W c3
        have M3 := Lib.hid m3
        clear m3
        clear c1 c2 c3
        go_enter Tryd.func45, Tryd.ntmps45
        go_wp2
        refine wp_loop_rounds 4 ?_
        rw [rounds_succ]
        go_wp2_with (go_at_call 60; refine (M1.out _).mono ?_; rintro e w' ⟨rfl, rfl⟩)
        rw [rounds_succ]
        go_wp2_with (go_at_call 60; refine (M2.out _).mono ?_; rintro e w' ⟨rfl, rfl⟩)
        rw [rounds_succ]
        go_wp2_with (go_at_call 60; refine (M3.out _).mono ?_; rintro e w' ⟨rfl, rfl⟩)
        exact bodyPost_ret (v := .agg #[.int .i64 (pos : Int), .int .i64 1, .int .i32 65533, .bool true]) (by simp [results, Tryd.results45, go_sem]) rfl ⟨rfl, (Below.refl _ _).alloc (Nat.le_refl _) _⟩
    · have hbad := oneV_bad s pos (hd.trans (by
        rcases Lib.decodeN_shape (s.size - pos) x.toNat (byteAt s (pos + 1)) (byteAt s (pos + 2)) (byteAt s (pos + 3)) with ⟨c, e⟩ | ⟨a1, a2, a3, av, e⟩ | ⟨a1, a2, a3, a4, av, asr, e⟩ | ⟨a1, a2, a3, a4, a5, av, aw, e⟩ | e
        · omega
        · omega
        · omega
        · omega
        · exact e))
      rw [hbad]
      clear hbad hd hb hx h h'
      have m1 := fun W => more_yes_z s ((pos : Int) + 1) (pos + 1) (by omega) W c1.1 c1.2.1 c1.2.2
      have M1 := Lib.hid m1
      have hl1 : (128 : Int) ≤ (byteAt s (pos + 1) : Int) := by omega
      have hu1 : (byteAt s (pos + 1) : Int) ≤ 191 := by omega
      clear m1
      have m2 := fun W => more_no_z s ((pos : Int) + 2) (pos + 2) (by omega) W c2
      have M2 := Lib.hid m2
      clear m2
      clear c1 c2
      go_enter Tryd.func45, Tryd.ntmps45
      go_wp2
      refine wp_loop_rounds 3 ?_
      rw [rounds_succ]
      go_wp2_with (go_at_call 60; refine (M1.out _).mono ?_; rintro e w' ⟨rfl, rfl⟩)
      rw [rounds_succ]
      go_wp2_with (go_at_call 60; refine (M2.out _).mono ?_; rintro e w' ⟨rfl, rfl⟩)
      exact bodyPost_ret (v := .agg #[.int .i64 (pos : Int), .int .i64 1, .int .i32 65533, .bool true]) (by simp [results, Tryd.results45, go_sem]) rfl ⟨rfl, (Below.refl _ _).alloc (Nat.le_refl _) _⟩
  · have hbad := oneV_bad s pos (hd.trans (by
      rcases Lib.decodeN_shape (s.size - pos) x.toNat (byteAt s (pos + 1)) (byteAt s (pos + 2)) (byteAt s (pos + 3)) with ⟨c, e⟩ | ⟨a1, a2, a3, av, e⟩ | ⟨a1, a2, a3, a4, av, asr, e⟩ | ⟨a1, a2, a3, a4, a5, av, aw, e⟩ | e
      · omega
      · omega
      · omega
      · omega
      · exact e))
    rw [hbad]
    clear hbad hd hb hx h h'
    have m1 := fun W => more_no_z s ((pos : Int) + 1) (pos + 1) (by omega) W c1
    have M1 := Lib.hid m1
    clear m1
    clear c1
    go_enter Tryd.func45, Tryd.ntmps45
    go_wp2
    refine wp_loop_rounds 2 ?_
    rw [rounds_succ]
    go_wp2_with (go_at_call 60; refine (M1.out _).mono ?_; rintro e w' ⟨rfl, rfl⟩)
    exact bodyPost_ret (v := .agg #[.int .i64 (pos : Int), .int .i64 1, .int .i32 65533, .bool true]) (by simp [results, Tryd.results45, go_sem]) rfl ⟨rfl, (Below.refl _ _).alloc (Nat.le_refl _) _⟩

end Go.Proofs.YtbeeeakcjeibgaaDoor
