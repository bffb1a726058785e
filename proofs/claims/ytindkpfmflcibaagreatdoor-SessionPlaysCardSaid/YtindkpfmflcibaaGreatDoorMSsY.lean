/- A table as bytes. -/
import Derived.Test.YtindkpfmflcibaaGreatDoorMSsX
import Derived.StillTailTactics
import Derived.Deep.AppendLies
namespace Go.Proofs.YtindkpfmflcibaaGreatDoor
open Go.RowKit Go.Maps Go.Sort Go.Shelf
set_option linter.unusedSimpArgs false

theorem seB_len {s : Se} (i0 : -9223372036854775808 ≤ s.id) (i1 : s.id ≤ 9223372036854775807) (u0 : -9223372036854775808 ≤ s.used) (u1 : s.used ≤ 9223372036854775807) (q0 : -9223372036854775808 ≤ s.seq) (q1 : s.seq ≤ 9223372036854775807)
    (hi : s.r.In) (hs : s.r.s.data.toList.length ≤ 1000000) : 1 ≤ (seB s).length ∧ (seB s).length ≤ 1000200 := by
  have t1 := putI_ten (v := s.id) i0 i1
  have t2 := putI_ten (v := s.used) u0 u1
  have t3 := putI_ten (v := s.seq) q0 q1
  have t4 := putP_len hi hs
  have t5 := putI_ten (v := ((putP s.r).length : Int)) (by omega) (by omega)
  have t6 := putI_pos s.id
  unfold seB putT
  simp only [List.length_append]
  omega
theorem Tb.row {most : Nat} {L : List Se} (h : Tb most L) {s : Se} (hs : s ∈ L) : (1 ≤ (seB s).length ∧ (seB s).length ≤ 1000200) ∧ ∀ w, Calls Tryz.prog 38 #[.int .i64 s.id, s.v] w (OwnBytes w (seB s)) := by
  have a := h.id s hs
  have b := h.used s hs
  have c := h.seq s hs
  have d := rep_size (h.rep s hs)
  have e : s.r.s.data.toList.length = s.r.s.size := rfl
  exact ⟨seB_len (by omega) (by omega) (by omega) (by omega) (by omega) (by omega) (h.rin s hs) (by omega), fun w => stput1_any s w (by omega) (by omega) (by omega) (by omega) (by omega) (by omega) (h.rin s hs) (by omega)⟩
theorem seflat_len {most : Nat} {L : List Se} (h : Tb most L) (j : Nat) : ((L.take j).flatMap seB).length ≤ j * 1000200 := by
  induction j with
  | zero => simp
  | succ j ih =>
    rw [List.take_add_one, List.flatMap_append, List.length_append, Nat.add_mul, Nat.one_mul]
    generalize j * 1000200 = B at ih ⊢
    cases hx : L[j]? with
    | none => simp only [Option.toList_none, List.flatMap_nil, List.length_nil]; omega
    | some s =>
      have := (h.row (List.mem_of_getElem? hx)).1
      have e : ((some s).toList.flatMap seB).length = (seB s).length := by simp
      rw [e]; omega
theorem seflat_snoc {L : List Se} {j : Nat} {s : Se} (h : L[j]? = some s) : (L.take (j + 1)).flatMap seB = (L.take j).flatMap seB ++ seB s := by
  rw [List.take_add_one, h, List.flatMap_append]; simp
end Go.Proofs.YtindkpfmflcibaaGreatDoor
