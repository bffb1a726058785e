/- eval's comparisons of two values, either, chosen. -/
import Derived.Test.YtepppianhafdjaaGreatDoorMEvW
import Derived.Sort.Walk0
namespace Go.Proofs.YtepppianhafdjaaGreatDoor
open Go.RowKit

/-- Less, the same, greater. -/
def cmpZ (lt eq : Bool) : Int := if lt then -1 else if eq then 0 else 1
theorem cmpZ_lt (lt eq : Bool) : decide (cmpZ lt eq < 0) = lt := by cases lt <;> cases eq <;> rfl
theorem cmpZ_eq (lt eq : Bool) (h : lt = true → eq = false) : decide (cmpZ lt eq = 0) = eq := by
  cases lt <;> cases eq <;> first | rfl | exact absurd (h rfl) (by decide)
theorem isnan_int (a : Int) (w : World) : Calls Tryz.prog 117 #[.int .i64 a] w fun e w' => e = .returned (.bool false) ∧ w = w' := by
  go_enter Tryz.func117, Tryz.ntmps117
  go_wp2_with fail
  go_ret
  exact ⟨ret_bool (by simp), rfl⟩
theorem isnan_str (a : ByteArray) (w : World) : Calls Tryz.prog 118 #[.string a] w fun e w' => e = .returned (.bool false) ∧ w = w' := by
  go_enter Tryz.func118, Tryz.ntmps118
  go_wp2_with fail
  go_ret
  exact ⟨ret_bool (by simp), rfl⟩
theorem cmp_int (a b : Int) (w : World) : Calls Tryz.prog 84 #[.int .i64 a, .int .i64 b] w fun e w' => e = .returned (.int .i64 (cmpZ (decide (a < b)) (decide (a = b)))) ∧ w = w' := by
  have c := fun a w => isnan_int a w
  have h3 : a < b ∨ a = b ∨ b < a := by omega
  rcases h3 with h | rfl | h
  · have e : cmpZ (decide (a < b)) (decide (a = b)) = -1 := by rw [decide_eq_true h]; rfl
    rw [e]
    go_enter Tryz.func84, Tryz.ntmps84
    go_wp2_with fail
    refine (c _ _).mono ?_
    rintro e w1 ⟨rfl, rfl⟩
    go_wp2_with fail
    refine (c _ _).mono ?_
    rintro e w1 ⟨rfl, rfl⟩
    go_wp2_with fail
    go_ret
    exact ⟨rfl, rfl⟩
  · have e : cmpZ (decide (a < a)) (decide (a = a)) = 0 := by rw [decide_eq_false (Int.lt_irrefl a), decide_eq_true rfl]; rfl
    rw [e]
    go_enter Tryz.func84, Tryz.ntmps84
    go_wp2_with fail
    refine (c _ _).mono ?_
    rintro e w1 ⟨rfl, rfl⟩
    go_wp2_with fail
    refine (c _ _).mono ?_
    rintro e w1 ⟨rfl, rfl⟩
    go_wp2_with fail
    go_ret
    exact ⟨rfl, rfl⟩
  · have e : cmpZ (decide (a < b)) (decide (a = b)) = 1 := by rw [decide_eq_false (by omega), decide_eq_false (by omega)]; rfl
    have h2 : ¬ a < b := by omega
    rw [e]
    go_enter Tryz.func84, Tryz.ntmps84
    go_wp2_with fail
    refine (c _ _).mono ?_
    rintro e w1 ⟨rfl, rfl⟩
    go_wp2_with fail
    refine (c _ _).mono ?_
    rintro e w1 ⟨rfl, rfl⟩
    go_wp2_with fail
    go_ret
    exact ⟨rfl, rfl⟩
theorem cmp_str (a b : List UInt8) (w : World) : Calls Tryz.prog 86 #[.string ⟨a.toArray⟩, .string ⟨b.toArray⟩] w fun e w' => e = .returned (.int .i64 (cmpZ (decide (a < b)) (decide (a = b)))) ∧ w = w' := by
  have c := fun a w => isnan_str a w
  have ha : (⟨a.toArray⟩ : ByteArray).toList = a := by rw [Lib.toList_data]
  have hb : (⟨b.toArray⟩ : ByteArray).toList = b := by rw [Lib.toList_data]
  have hl : Op.bytesLess (⟨a.toArray⟩ : ByteArray).toList (⟨b.toArray⟩ : ByteArray).toList = decide (a < b) := by rw [ha, hb, bytesLess_eq]
  have he : ((⟨a.toArray⟩ : ByteArray).toList == (⟨b.toArray⟩ : ByteArray).toList) = decide (a = b) := by
    rw [ha, hb]
    by_cases h : a = b
    · subst h; simp
    · rw [decide_eq_false h]; exact beq_eq_false_iff_ne.2 h
  generalize (⟨a.toArray⟩ : ByteArray) = S at *
  generalize (⟨b.toArray⟩ : ByteArray) = T at *
  generalize decide (a < b) = L at *
  generalize decide (a = b) = E at *
  clear ha hb
  cases L <;> cases E
  all_goals
    go_enter Tryz.func86, Tryz.ntmps86
    go_wp2_with fail
    refine (c _ _).mono ?_
    rintro e w1 ⟨rfl, rfl⟩
    go_wp2_with fail
    refine (c _ _).mono ?_
    rintro e w1 ⟨rfl, rfl⟩
    go_wp2_with fail
    go_ret
    exact ⟨rfl, rfl⟩
/-- What a comparison of two numbers does with them. -/
theorem do_cmpi (op a b : Int) (po pa : Nat) (w : World) (ho : 12 ≤ op ∧ op ≤ 15) (c0 : w.cell? ⟨po, 0, none⟩ = some (.int .i64 op)) (c1 : w.cell? ⟨pa, 0, none⟩ = some (.int .i64 a)) :
    Calls Tryz.prog 82 #[.int .i64 b, .pointer (some ⟨po, 0, none⟩), .pointer (some ⟨pa, 0, none⟩)] w (Comes w (truV (holdB op (decide (a < b)) (decide (a = b))))) := by
  have cC := fun w => cmp_int a b w
  have cH := fun w => holds_any op (cmpZ (decide (a < b)) (decide (a = b))) w ho
  rw [cmpZ_lt, cmpZ_eq _ _ (fun h => decide_eq_false (by have := of_decide_eq_true h; omega))] at cH
  have HV : Hid (∀ R : Bool, bxV (truV R) = .iface 4 (.bool R)) := Lib.hid (fun R => by cases R <;> rfl)
  generalize cmpZ (decide (a < b)) (decide (a = b)) = C at *
  generalize holdB op (decide (a < b)) (decide (a = b)) = R at *
  go_enter Tryz.func82, Tryz.ntmps82
  go_wp2_with fail
  go_quiet ((first | (go_at_call 84; exact (cC _).mono fun _ _ h => ⟨h.1, _, h.2.symm⟩) | (go_at_call 83; exact (cH _).mono fun _ _ h => ⟨h.1, _, h.2.symm⟩)))
  go_wp2_with fail
  go_ret
  exact ⟨by rw [HV.out]; rfl, below_drewN (Below.refl _ _) _⟩
theorem lt_ne {a b : List UInt8} (h : a < b) : a ≠ b := fun e => by subst e; exact List.lt_irrefl _ h
theorem do_cmps (op : Int) (a b : List UInt8) (po pa : Nat) (w : World) (ho : 12 ≤ op ∧ op ≤ 15) (c0 : w.cell? ⟨po, 0, none⟩ = some (.int .i64 op)) (c1 : w.cell? ⟨pa, 0, none⟩ = some (.string ⟨a.toArray⟩)) :
    Calls Tryz.prog 85 #[.string ⟨b.toArray⟩, .pointer (some ⟨po, 0, none⟩), .pointer (some ⟨pa, 0, none⟩)] w (Comes w (truV (holdB op (decide (a < b)) (decide (a = b))))) := by
  have cC := fun w => cmp_str a b w
  have cH := fun w => holds_any op (cmpZ (decide (a < b)) (decide (a = b))) w ho
  rw [cmpZ_lt, cmpZ_eq _ _ (fun h => decide_eq_false (lt_ne (of_decide_eq_true h)))] at cH
  have HV : Hid (∀ R : Bool, bxV (truV R) = .iface 4 (.bool R)) := Lib.hid (fun R => by cases R <;> rfl)
  generalize cmpZ (decide (a < b)) (decide (a = b)) = C at *
  generalize holdB op (decide (a < b)) (decide (a = b)) = R at *
  generalize (⟨a.toArray⟩ : ByteArray) = S at *
  generalize (⟨b.toArray⟩ : ByteArray) = T at *
  go_enter Tryz.func85, Tryz.ntmps85
  go_wp2_with fail
  go_quiet ((first | (go_at_call 86; exact (cC _).mono fun _ _ h => ⟨h.1, _, h.2.symm⟩) | (go_at_call 83; exact (cH _).mono fun _ _ h => ⟨h.1, _, h.2.symm⟩)))
  go_wp2_with fail
  go_ret
  exact ⟨by rw [HV.out]; rfl, below_drewN (Below.refl _ _) _⟩
theorem do_cmpb (op m n : Int) (po pa : Nat) (w : World) (ho : op = 12 ∨ op = 13) (hm : m = 0 ∨ m = 1) (hn : n = 0 ∨ n = 1) (c0 : w.cell? ⟨po, 0, none⟩ = some (.int .i64 op)) (c1 : w.cell? ⟨pa, 0, none⟩ = some (.bool (m == 1))) :
    Calls Tryz.prog 87 #[.bool (n == 1), .pointer (some ⟨pa, 0, none⟩), .pointer (some ⟨po, 0, none⟩)] w (Comes w (truV (holdB op false (decide (m = n))))) := by
  rcases ho with rfl | rfl <;> rcases hm with rfl | rfl <;> rcases hn with rfl | rfl
  all_goals
    go_enter Tryz.func87, Tryz.ntmps87
    go_wp2_with fail
    go_ret
    exact ⟨rfl, Below.refl _ _⟩
end Go.Proofs.YtepppianhafdjaaGreatDoor
