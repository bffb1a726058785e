/- The contract of runes.At: for every string and every number it returns the piece that begins at that byte, or that none does. -/
import Derived.Test.YtocejllclpdnnaaDoorWin
import Derived.Test.YtocejllclpdnnaaDoorFold
namespace Go.Proofs.YtocejllclpdnnaaDoor
open Go.RowKit

theorem atL_some (l : List UInt8) : ∀ i x, atL l i = some x → x = Lib.decodeL (l.drop i) := by
  induction l using pcs_induct with
  | h0 => intro i x h; rw [atL_nil] at h; cases h
  | h1 l hne ih =>
    intro i x h
    rw [atL_step l hne] at h
    split at h
    · rename_i h0; subst h0; cases h; rfl
    · split at h
      · cases h
      · have := ih _ _ h
        rw [this, List.drop_drop]; congr 2; omega

def AtRel (t : List UInt8) (j p : Nat) (R : Option (Nat × Nat)) : Prop := (p ≤ j ∧ atL (t.drop p) (j - p) = R) ∨ (j < p ∧ R = none)
theorem atRel_step (t : ByteArray) (j p : Nat) (R : Option (Nat × Nat)) (h : AtRel t.data.toList j p R) (hp : p < t.size) (hj : p ≠ j) : AtRel t.data.toList j (p + (Utf8.decode t p).2) R := by
  rcases h with ⟨hpj, h⟩ | ⟨hpj, h⟩
  · rw [atL_step _ (drop_ne t p hp), if_neg (by omega), Lib.decodeL_drop, List.drop_drop] at h
    by_cases hw : j - p < (Utf8.decode t p).2
    · rw [if_pos hw] at h; exact .inr ⟨by omega, h.symm⟩
    · rw [if_neg hw] at h; exact .inl ⟨by omega, by rw [← h]; congr 1; omega⟩
  · exact .inr ⟨by omega, h⟩
theorem atRel_hit (t : ByteArray) (j : Nat) (R : Option (Nat × Nat)) (h : AtRel t.data.toList j j R) (hp : j < t.size) : R = some (Utf8.decode t j) := by
  rcases h with ⟨_, h⟩ | ⟨hpj, _⟩
  · rw [← h, Nat.sub_self, atL_zero _ (drop_ne t j hp), Lib.decodeL_drop]
  · omega
theorem atRel_end (t : ByteArray) (j p : Nat) (R : Option (Nat × Nat)) (h : AtRel t.data.toList j p R) (hp : ¬ p < t.size) : R = none := by
  rcases h with ⟨_, h⟩ | ⟨_, h⟩
  · rw [← h, drop_nil t p hp, atL_nil]
  · exact h

/-- What At answers. -/
def atV (R : Option (Nat × Nat)) : Value := match R with
  | some x => .tuple #[.int .i32 x.1, .int .i64 x.2, .bool true]
  | none => .tuple #[.int .i32 0, .int .i64 0, .bool false]
def atZ (l : List UInt8) (i : Int) : Option (Nat × Nat) := if 0 ≤ i then atL l i.toNat else none

set_option maxHeartbeats 2000000 in
theorem at_any (s : ByteArray) (i : Int) (w : World) (hs : s.size < 9223372036854775800) (hi0 : -9223372036854775808 ≤ i) (hi1 : i ≤ 9223372036854775807) (hT : Tabs w) :
    Calls Tryd.prog 23 #[.string s, .int .i64 i] w fun e w' => e = .returned (atV (atZ s.data.toList i)) ∧ Below w.heap.size w w' := by
  by_cases h0 : 0 ≤ i
  · obtain ⟨j, rfl⟩ := Int.eq_ofNat_of_zero_le h0
    have hz : atZ s.data.toList (j : Int) = atL s.data.toList j := by simp [atZ]
    rw [hz]; clear hz
    by_cases h1 : j < s.size
    · obtain ⟨F, hF⟩ : ∃ F : Nat, F = j - 3 := ⟨_, rfl⟩
      obtain ⟨E, hE⟩ : ∃ E : Nat, E = min s.size (j + 4) := ⟨_, rfl⟩
      have hFz : max 0 ((j : Int) - 3) = (F : Int) := by omega
      have hEz : min (s.size : Int) ((j : Int) + 3 + 1) = (E : Int) := by omega
      have hlook := at_look s.data.toList j F E (by omega) (by rw [← Lib.size_eq]; omega)
      have hFE : F ≤ j ∧ j < E ∧ E ≤ s.size := by omega
      obtain ⟨hFj, hjE, hEs⟩ := hFE
      have hl : (s.extract F E).data.toList = (s.data.toList.drop F).take (E - F) := by rw [Lib.extract_data]
      have hsz : (s.extract F E).size = E - F := by rw [ByteArray.size_extract]; omega
      have hR0 : AtRel (s.extract F E).data.toList (j - F) 0 (atL s.data.toList j) := .inl ⟨by omega, by rw [hl, List.drop_zero, Nat.sub_zero]; exact hlook⟩
      have HR0 := Lib.hid hR0
      have HSZ := Lib.hid hsz
      clear hR0 hsz hl hlook hF hE
      obtain ⟨R, hR⟩ : ∃ R, atL s.data.toList j = R := ⟨_, rfl⟩
      rw [hR] at HR0 ⊢
      have HR := Lib.hid hR
      clear hR
      go_enter Tryd.func23, Tryd.ntmps23
      go_wp2
      go_loopw [] (fun wr => ∃ p, AtRel (s.extract F E).data.toList (j - F) p R ∧ wr = w.iter (s.extract F E) p) (fun wr => (s.extract F E).size - wr.iterPos w.heap.size)
      case atStart => exact ⟨0, HR0.out, rfl⟩
      case round =>
        obtain ⟨p, hrel, rfl⟩ := hrel
        have HREL := Lib.hid hrel
        clear hrel
        by_cases hp : p < (s.extract F E).size
        · have hnx : ∀ ty, (Instr.next (.pointer (some ⟨w.heap.size, 0, none⟩)) true ty).run Tryd.prog (w.iter (s.extract F E) p) = _ := fun ty => run_next_any w (s.extract F E) p ty hp
          obtain ⟨hw1, hw2⟩ := width_in (s.extract F E) p hp
          have hpE : p < E - F := by have := HSZ.out; omega
          by_cases hj : p = j - F
          · have hT2 : Tabs (w.iter (s.extract F E) (p + (Utf8.decode (s.extract F E) p).2)) := hT.later (iter_below _ _ _)
            have hb : ((F : Int) + (p : Int) == (j : Int)) = true := beq_iff_eq.2 (by omega)
            have hhit : R = some (Utf8.decode (s.extract F E) p) := by
              subst hj; exact atRel_hit _ _ _ HREL.out hp
            have hhit2 : R = some (Utf8.decode s j) := by
              have := atL_some _ _ _ (HR.out.trans hhit)
              rw [hhit, this, Lib.decodeL_drop]
            have hd : Utf8.decode (s.extract F E) p = Utf8.decode s j := Option.some.inj (hhit.symm.trans hhit2)
            have HHIT := Lib.hid hhit2
            have HD := Lib.hid (congrArg (fun x : Nat × Nat => (x.1 : Int)) hd)
            clear hhit hhit2 hd hj HR HREL
            go_wp2_with fail
            refine (width_at s j h1 _ hT2).mono ?_
            rintro e w1 ⟨rfl, hb1⟩
            go_wp2
            go_ret3
            have hbi := iter_below w (s.extract F E) (p + (Utf8.decode (s.extract F E) p).2)
            refine ⟨?_, hbi.trans (hb1.mono hbi.size)⟩
            have e := HD.out
            rw [HHIT.out, e]; rfl
          · have hb : ((F : Int) + (p : Int) == (j : Int)) = false := beq_eq_false_iff_ne.2 (by omega)
            have hst := Lib.hid (atRel_step (s.extract F E) (j - F) p R HREL.out hp hj)
            clear hj
            go_wp2
            go_roundw
            case rel => exact ⟨_, hst.out, rfl⟩
            case measure => simp; omega
        · have hnx : ∀ ty, (Instr.next (.pointer (some ⟨w.heap.size, 0, none⟩)) true ty).run Tryd.prog (w.iter (s.extract F E) p) = _ := fun ty => run_next_end w (s.extract F E) p ty hp
          have hno := Lib.hid (atRel_end (s.extract F E) (j - F) p R HREL.out hp)
          go_wp2
          go_ret3
          refine ⟨?_, iter_below w _ _⟩
          rw [hno.out]; rfl
    · rw [atL_out _ _ (by rw [← Lib.size_eq]; omega)]
      have hge : s.size ≤ j := by omega
      go_enter Tryd.func23, Tryd.ntmps23
      go_wp2
      go_ret3
      exact ⟨rfl, Below.refl _ _⟩
  · have hz : atZ s.data.toList i = none := by unfold atZ; rw [if_neg h0]
    rw [hz]; clear hz
    have hlt : i < 0 := by omega
    go_enter Tryd.func23, Tryd.ntmps23
    go_wp2
    go_ret3
    exact ⟨rfl, Below.refl _ _⟩
end Go.Proofs.YtocejllclpdnnaaDoor
