/- Contracts of frame.All and of the law's all: what the iterator tells, at most so many. -/
import Derived.Test.YtpkbjiakjofcnaaFAllIt
namespace Go.Proofs.Ytpkbjiakjofcnaa
open Go.RowKit Go.Shelf

def AllFnEnd (w : World) (L : List UInt8) (e : Ending) (w' : World) : Prop := ∃ A' ca' K, e = .returned (.func (.func 41) #[] #[.pointer (some ⟨K, 0, none⟩)]) ∧ Boxed w' K 22 (.slice A' L.length ca') ∧ Bs w' A' L ∧ L.length ≤ ca' ∧ Below w.heap.size w w'
set_option maxHeartbeats 1000000 in
theorem allfn_any (A : Option Addr) (L : List UInt8) (ca : Nat) (w : World) (hl : L.length ≤ 140737488351232) (hB : Bs w A L) (hcap : A = none → ca = 0) :
    Calls Try.prog 30 #[.slice A L.length ca] w (AllFnEnd w L) := by
  have cc := clone_any A L ca w hl hB hcap
  clear hB hcap
  go_enter Try.func30, Try.ntmps30
  go_wp2_with fail
  (with_reducible refine cc.mono ?_)
  rintro e w1 ⟨A1, cap1, rfl, hB1, _, hown, hb1⟩
  have hc1 := own_cap hown
  have HB1 := Lib.hid (hB1.below ((Below.refl _ w1).alloc (Nat.le_refl _) (.cells #[.slice A1 L.length cap1] 22)))
  clear cc hown hB1
  go_wp2
  go_ret
  exact ⟨A1, cap1, _, rfl, Boxed.new w1 _ _, HB1.out, hc1, hb1.alloc hb1.size _⟩

theorem run_eql_it (w : World) (f : Fn) (a b : Array Value) : (binOp .eql 64 (.func f a b) .nilFunc).run Try.prog w = .ok (.bool false) w := by
  have h : ∀ d : Nat, (Op.equalIn (d + 1) 64 (.func f a b) .nilFunc).run Try.prog w = .ok false w := fun d => by
    simp [Op.equalIn, run_underlying Try.underlying64]
  simp only [binOp]
  simp [Op.equal, Op.maxDepth, h 9999]
/-- What all answers: the places and the bodies of the first m frames. -/
def AllEnd (w : World) (bs : List (List UInt8)) (m : Nat) (e : Ending) (w' : World) : Prop := ∃ v1 v2, e = .returned (.tuple #[v1, v2]) ∧ w'.ownsRow w.heap.size 3 1 v1 m ((List.range m).map (placeV bs)) ∧ w'.ownsRow w.heap.size 9 1 v2 m ((List.range m).map (textV bs)) ∧ Below w.heap.size w w'
set_option maxHeartbeats 2000000 in
theorem all_any (A : Option Addr) (L R : List UInt8) (bs : List (List UInt8)) (ca most : Nat) (w : World) (hF : Frs L bs R) (hl : L.length ≤ 140737488351232) (hmany : bs.length ≤ 1099511627776) (hm : 1 ≤ most) (hB : Bs w A L) (hcap : A = none → ca = 0) :
    Calls Try.prog 19 #[.slice A L.length ca, .int .i64 (most : Int)] w (AllEnd w bs (min most bs.length)) := by
  have bE := Boxed.new w 3 (.int .i64 (most : Int))
  have cf := allfn_any A L ca (w.alloc (.cells #[.int .i64 (most : Int)] 3)) hl (hB.below ((Below.refl _ w).alloc (Nat.le_refl _) _)) hcap
  have HE := Lib.hid bE
  clear hB hcap bE
  have ke := run_eql_it
  have hmf : ¬ (most : Int) < 1 := by omega
  go_enter Try.func19, Try.ntmps19
  go_wp2_with fail
  (with_reducible refine cf.mono ?_)
  rintro e w1 ⟨A1, ca1, K, rfl, bK, hB1, hlc, hb1⟩
  have hEs : w.heap.size < w1.heap.size := by have := hb1.size; simp at this; omega
  have bE1 : Boxed w1 w.heap.size 3 (.int .i64 (most : Int)) := (hb1.block _ (by simp)).trans HE.out
  have cE := bE1.cell
  have hb0 : Below w.heap.size w w1 := ((Below.refl _ w).alloc (Nat.le_refl _) _).trans (hb1.mono (by simp))
  have HE1 := Lib.hid bE1
  have HK := Lib.hid bK
  have HB1 := Lib.hid hB1
  have HB0 := Lib.hid hb0
  clear cf bK hB1 hb1 hb0 HE bE1
  go_wp2_with fail
  have hb2 : Below w1.heap.size w1 ((w1.alloc (.cells #[.slice none 0 0] 38)).alloc (.cells #[.slice none 0 0] 39)) := ((Below.refl _ w1).alloc (Nat.le_refl _) _).alloc (by simp) _
  have bP : Boxed ((w1.alloc (.cells #[.slice none 0 0] 38)).alloc (.cells #[.slice none 0 0] 39)) w1.heap.size 38 (.slice none 0 0) := (Boxed.new w1 _ _).alloc _
  have bQ := Boxed.new (w1.alloc (.cells #[.slice none 0 0] 38)) 39 (.slice none 0 0)
  simp only [World.size_alloc] at bQ
  have h0 : CollP w1.heap.size w1.heap.size (w1.heap.size + 1) bs [] ((w1.alloc (.cells #[.slice none 0 0] 38)).alloc (.cells #[.slice none 0 0] 39)) := ⟨_, _, bP, bQ, World.ownsRow_nil _ _ _ _, World.ownsRow_nil _ _ _ _⟩
  have ci := allit_any w1.heap.size w1.heap.size (w1.heap.size + 1) w.heap.size K most ca1 A1 L R bs _ hF hl hlc hmany hm hEs (Nat.le_refl _) (by omega) (by omega) (by simp; omega) ((hb2.block _ hEs).trans HE1.out) ((hb2.block _ HK.out.lt).trans HK.out) ((BsU.of HB1.out (Nat.le_refl _)).below hb2) h0
  have HB2 := Lib.hid hb2
  clear bP bQ h0 hb2
  (with_reducible refine ci.mono ?_)
  rintro e w3 ⟨rfl, ⟨v1, v2, hC⟩, hb3⟩
  have cP := hC.bP.cell
  have cQ := hC.bQ.cell
  have HC := Lib.hid hC
  have HB3 := Lib.hid ((HB0.out.trans (HB2.out.mono HB0.out.size)).trans (hb3.mono HB0.out.size))
  clear ci hC hb3
  go_wp2_with fail
  go_quiet (fail)
  go_wp2_with fail
  have hC := HC.out.next (w' := w3.drewN nq) ⟨rfl, rfl, rfl, Nat.le_refl _, fun _ _ => rfl⟩
  rw [List.length_range] at hC
  exact bodyPost_ret (v := .tuple #[v1, v2]) (by simp [results, Try.results19, go_sem]) rfl ⟨v1, v2, rfl, own_low hC.r1 (by omega), own_low hC.r2 (by omega), below_dn HB3.out _⟩
end Go.Proofs.Ytpkbjiakjofcnaa
