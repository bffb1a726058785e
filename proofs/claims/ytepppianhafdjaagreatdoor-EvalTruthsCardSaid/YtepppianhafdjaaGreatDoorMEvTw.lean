/- palaverlaw09.two: what two numbers come to by a sign. -/
import Derived.Test.YtepppianhafdjaaGreatDoorMEvU
import Derived.Test.YtepppianhafdjaaGreatDoorGQ
namespace Go.Proofs.YtepppianhafdjaaGreatDoor
open Go.RowKit

def abE (op : Int) : Ex := .mk op 0 [] [.mk 4 0 [97] [], .mk 4 0 [98] []]
def abN : List ByteArray := [⟨#[97]⟩, ⟨#[98]⟩]
def abV (x y : Va) : List Va := [x, y]
theorem ab_chk : ∀ op : Fin 11, chkB (abE ((7 + op.val : Nat) : Int)) = true := fun op => by
  rw [← chkC_eq]
  exact (show ∀ op : Fin 11, chkC (abE ((7 + op.val : Nat) : Int)) = true by decide +kernel) op
theorem ab_name (x y : Va) (hx : x.ok) (hy : y.ok) : nameV abN (abV x y) ⟨#[97]⟩ = x ∧ nameV abN (abV x y) ⟨#[98]⟩ = y := by
  unfold abN abV
  refine ⟨?_, ?_⟩
  · rw [nameV, if_pos rfl, if_pos hx.1]
  · rw [nameV, if_neg (by decide), nameV, if_pos rfl, if_pos hy.1]
theorem ab_ev (op : Int) (x y : Va) (h7 : 7 ≤ op) (h17 : op ≤ 17) (hx : x.ok) (hy : y.ok) : evA abN (abV x y) (abE op) = opV op [x, y] := by
  have hc := ab_chk ⟨(op - 7).toNat, by omega⟩
  rw [show ((7 + (op - 7).toNat : Nat) : Int) = op by omega] at hc
  obtain ⟨e1, e2⟩ := ab_name x y hx hy
  unfold evA
  rw [hc, if_pos rfl]
  unfold abE
  rw [evalE_op (by omega) (by omega), evalL, evalL, evalL]
  have n1 : evalE abN (abV x y) (.mk 4 0 [97] []) = x := by
    rw [evalE]
    exact e1
  have n2 : evalE abN (abV x y) (.mk 4 0 [98] []) = y := by
    rw [evalE]
    exact e2
  rw [n1, n2]
theorem ok_int {a : Int} (h0 : -9223372036854775808 ≤ a) (h1 : a ≤ 9223372036854775807) : (⟨1, a, []⟩ : Va).ok := ⟨rfl, h0, h1⟩
abbrev abCells : Array Value := #[.int .i64 4, .int .i64 0, .string ⟨#[97]⟩, .slice none 0 0, .int .i64 4, .int .i64 0, .string ⟨#[98]⟩, .slice none 0 0]
abbrev vCells (x y : Va) : Array Value := #[.int .i64 x.k, .int .i64 x.n, .string ⟨x.s.toArray⟩, .int .i64 y.k, .int .i64 y.n, .string ⟨y.s.toArray⟩]
theorem ab_in (w : World) (op : Int) (h7 : 7 ≤ op) (h17 : op ≤ 17) : ExIn (w.alloc (.cells abCells 30)) (fun _ => True) (abE op) (EV op 0 ⟨#[]⟩ (.slice (some ⟨w.heap.size, 0, none⟩) 2 2)) := by
  have hc := cells_of_alloc w abCells 30
  have hnb := NB.new w abCells 30
  have hz := alloc_size w (.cells abCells 30)
  refine ex_two (op := op) ⟨by omega, by omega⟩ trivial (by omega) ?_
  have k1 : ∀ S, ExIn (w.alloc (.cells abCells 30)) S (.mk 4 0 [97] []) (EV 4 0 ⟨#[97]⟩ (.slice none 0 0)) := fun S => ExIn.leaf (op := 4) (n := 0) (s := [97]) ⟨⟨by decide, by decide⟩, ⟨by decide, by decide⟩, by decide⟩
  have k2 : ∀ S, ExIn (w.alloc (.cells abCells 30)) S (.mk 4 0 [98] []) (EV 4 0 ⟨#[98]⟩ (.slice none 0 0)) := fun S => ExIn.leaf (op := 4) (n := 0) (s := [98]) ⟨⟨by decide, by decide⟩, ⟨by decide, by decide⟩, by decide⟩
  exact RowIn.one hnb (hc 0) (hc 1) (hc 2) (hc 3) (k1 _) (RowIn.one hnb (hc 4) (hc 5) (hc 6) (hc 7) (k2 _) .none)
theorem ab_names (w : World) : Ts (w.alloc (.cells #[.string ⟨#[97]⟩, .string ⟨#[98]⟩] 9)) (some ⟨w.heap.size, 0, none⟩) abN := fun _ => ⟨w.heap.size, 0, rfl, fun j hj => by
  rw [cells_of_alloc]
  have hl : abN.length = 2 := rfl
  match j, hj with
  | 0, _ => rfl
  | 1, _ => rfl⟩
theorem ab_vals (w : World) (x y : Va) : Vs (w.alloc (.cells (vCells x y) 23)) (some ⟨w.heap.size, 0, none⟩) (abV x y) := fun _ => ⟨w.heap.size, 0, rfl, fun k v hk => by
  have hc := cells_of_alloc w (vCells x y) 23
  match k, hk with
  | 0, hk => obtain rfl : x = v := by simpa [abV] using hk
             exact ⟨hc 0, hc 1, hc 2⟩
  | 1, hk => obtain rfl : y = v := by simpa [abV] using hk
             exact ⟨hc 3, hc 4, hc 5⟩
  | k + 2, hk => simp [abV] at hk⟩
/-- The memory that a call of Eval on a and b is handed. -/
abbrev abW (w : World) (x y : Va) : World := ((w.alloc (.cells abCells 30)).alloc (.cells #[.string ⟨#[97]⟩, .string ⟨#[98]⟩] 9)).alloc (.cells (vCells x y) 23)
theorem ab_below (w : World) (x y : Va) : Below w.heap.size w (abW w x y) := (((Below.refl _ w).alloc (Nat.le_refl _) _).alloc (by simp) _).alloc (by simp; omega) _
theorem ab_eval (w : World) (op : Int) (x y : Va) (h7 : 7 ≤ op) (h17 : op ≤ 17) (hx : x.ok) (hy : y.ok) (hlx : x.s.length ≤ 400) (hly : y.s.length ≤ 400) (hE : EnvP w) :
    Calls Tryz.prog 15 #[EV op 0 ⟨#[]⟩ (.slice (some ⟨w.heap.size, 0, none⟩) 2 2), .slice (some ⟨w.heap.size + 1, 0, none⟩) 2 2, .slice (some ⟨w.heap.size + 1 + 1, 0, none⟩) 2 2] (abW w x y) fun en w' => en = .returned (vaV (opV op [x, y])) ∧ Below (abW w x y).heap.size (abW w x y) w' := by
  have h1 := alloc_size w (.cells abCells 30)
  have h2 := alloc_size (w.alloc (.cells abCells 30)) (.cells #[.string ⟨#[97]⟩, .string ⟨#[98]⟩] 9)
  have hi := ((ab_in w op h7 h17).later (below_alloc _ (.cells #[.string ⟨#[97]⟩, .string ⟨#[98]⟩] 9))).later (below_alloc _ (.cells (vCells x y) 23))
  have hn := (ab_names (w.alloc (.cells abCells 30))).below (below_alloc _ (.cells (vCells x y) 23))
  have hv := ab_vals ((w.alloc (.cells abCells 30)).alloc (.cells #[.string ⟨#[97]⟩, .string ⟨#[98]⟩] 9)) x y
  rw [h1] at hn
  rw [h2, h1] at hv
  have hb := ab_below w x y
  have c := eval_all abN (abV x y) (some ⟨w.heap.size + 1, 0, none⟩) (some ⟨w.heap.size + 1 + 1, 0, none⟩) 2 2 (abE op) _ _ (abW w x y) (hE.later hb) hi
    ⟨hn, hv, (hE.later hb).env.tabs, by decide, by unfold abV; simp, fun v hv => by
      unfold abV at hv
      rcases List.mem_cons.1 hv with rfl | hv
      · omega
      · rw [List.mem_singleton.1 hv]; omega, fun v hv => by
      unfold abV at hv
      rcases List.mem_cons.1 hv with rfl | hv
      · exact hx.2
      · rw [List.mem_singleton.1 hv]; exact hy.2⟩
  rw [ab_ev op x y h7 h17 hx hy] at c
  exact c
end Go.Proofs.YtepppianhafdjaaGreatDoor
