/- EvO -/
import Derived.Test.YtjmfpgalepahoaaGreatDoorSMEvX
import Derived.Test.YtjmfpgalepahoaaGreatDoorSEY
namespace Go.Proofs.YtjmfpgalepahoaaGreatDoor
section
set_option maxHeartbeats 4000000
set_option maxRecDepth 100000
open Go.RowKit
theorem of_num (A B : Option Addr) (l c m d : Nat) (n : Int) (s : ByteArray) (ao : Option Addr) (len cap : Nat) (w : World)  :
  Calls Tryz.prog 52 #[KE A l c B m d, .agg #[.int .i64 1, .int .i64 n, .string s, .slice ao len cap]] w (Comes w ⟨1, n, []⟩) := by
 have hmf := mkfunc
 have hb1 := below_alloc w (.cells #[.slice A l c, .slice B m d] 88)
 have hs1 := alloc_size w (.cells #[.slice A l c, .slice B m d] 88)
 have k0 : (w.alloc (.cells #[.slice A l c, .slice B m d] 88)).cell? ⟨w.heap.size, 0, none⟩ = some (.slice A l c) := by rw [cells_of_alloc]; rfl
 have k1 : (w.alloc (.cells #[.slice A l c, .slice B m d] 88)).cell? ⟨w.heap.size, 1, none⟩ = some (.slice B m d) := by rw [cells_of_alloc]; rfl
 obtain ⟨w1, hw1⟩ : ∃ w1, w.alloc (.cells #[.slice A l c, .slice B m d] 88) = w1 := ⟨_, rfl⟩
 rw [hw1] at hb1 hs1 k0 k1
 have hX := four_new w1 (.int .i64 1) (.int .i64 n) (.string s) (.slice ao len cap) 25
 have hb2 := below_alloc w1 (.cells #[.int .i64 1, .int .i64 n, .string s, .slice ao len cap] 25)
 have hs2 := alloc_size w1 (.cells #[.int .i64 1, .int .i64 n, .string s, .slice ao len cap] 25)
 obtain ⟨w2, hw2⟩ : ∃ w2, w1.alloc (.cells #[.int .i64 1, .int .i64 n, .string s, .slice ao len cap] 25) = w2 := ⟨_, rfl⟩
 rw [hw2] at hX hb2 hs2
 have k0 := (hb2.cell (p := ⟨w.heap.size, 0, none⟩) (show w.heap.size < w1.heap.size by omega)).trans k0
 have k1 := (hb2.cell (p := ⟨w.heap.size, 1, none⟩) (show w.heap.size < w1.heap.size by omega)).trans k1
 have hB := below_to hb1 hb2
 have HB := Lib.hid hB
 obtain ⟨-, e0, e1, e2, e3⟩ := hX
 clear hB hb1 hb2 hs1 hs2
 go_enter Tryz.func52, Tryz.ntmps52
 go_wp2_with fail
 go_ret
 exact ⟨rfl, HB.out⟩
theorem of_bool (A B : Option Addr) (l c m d : Nat) (n : Int) (s : ByteArray) (ao : Option Addr) (len cap : Nat) (w : World)  :
  Calls Tryz.prog 52 #[KE A l c B m d, .agg #[.int .i64 3, .int .i64 n, .string s, .slice ao len cap]] w (Comes w ⟨2, n, []⟩) := by
 have hmf := mkfunc
 have hb1 := below_alloc w (.cells #[.slice A l c, .slice B m d] 88)
 have hs1 := alloc_size w (.cells #[.slice A l c, .slice B m d] 88)
 have k0 : (w.alloc (.cells #[.slice A l c, .slice B m d] 88)).cell? ⟨w.heap.size, 0, none⟩ = some (.slice A l c) := by rw [cells_of_alloc]; rfl
 have k1 : (w.alloc (.cells #[.slice A l c, .slice B m d] 88)).cell? ⟨w.heap.size, 1, none⟩ = some (.slice B m d) := by rw [cells_of_alloc]; rfl
 obtain ⟨w1, hw1⟩ : ∃ w1, w.alloc (.cells #[.slice A l c, .slice B m d] 88) = w1 := ⟨_, rfl⟩
 rw [hw1] at hb1 hs1 k0 k1
 have hX := four_new w1 (.int .i64 3) (.int .i64 n) (.string s) (.slice ao len cap) 25
 have hb2 := below_alloc w1 (.cells #[.int .i64 3, .int .i64 n, .string s, .slice ao len cap] 25)
 have hs2 := alloc_size w1 (.cells #[.int .i64 3, .int .i64 n, .string s, .slice ao len cap] 25)
 obtain ⟨w2, hw2⟩ : ∃ w2, w1.alloc (.cells #[.int .i64 3, .int .i64 n, .string s, .slice ao len cap] 25) = w2 := ⟨_, rfl⟩
 rw [hw2] at hX hb2 hs2
 have k0 := (hb2.cell (p := ⟨w.heap.size, 0, none⟩) (show w.heap.size < w1.heap.size by omega)).trans k0
 have k1 := (hb2.cell (p := ⟨w.heap.size, 1, none⟩) (show w.heap.size < w1.heap.size by omega)).trans k1
 have hB := below_to hb1 hb2
 have HB := Lib.hid hB
 obtain ⟨-, e0, e1, e2, e3⟩ := hX
 clear hB hb1 hb2 hs1 hs2
 go_enter Tryz.func52, Tryz.ntmps52
 go_wp2_with fail
 go_ret
 exact ⟨rfl, HB.out⟩
theorem of_text (A B : Option Addr) (l c m d : Nat) (n : Int) (t : List UInt8) (ao : Option Addr) (len cap : Nat) (w : World) :
  Calls Tryz.prog 52 #[KE A l c B m d, .agg #[.int .i64 2, .int .i64 n, .string ⟨t.toArray⟩, .slice ao len cap]] w (Comes w ⟨3, 0, t⟩) := by
 have HS : Hid (bxV ⟨3, 0, t⟩ = .iface 9 (.string ⟨t.toArray⟩)) := Lib.hid rfl
 generalize (⟨t.toArray⟩ : ByteArray) = s at *
 have hmf := mkfunc
 have hb1 := below_alloc w (.cells #[.slice A l c, .slice B m d] 88)
 have hs1 := alloc_size w (.cells #[.slice A l c, .slice B m d] 88)
 have k0 : (w.alloc (.cells #[.slice A l c, .slice B m d] 88)).cell? ⟨w.heap.size, 0, none⟩ = some (.slice A l c) := by rw [cells_of_alloc]; rfl
 have k1 : (w.alloc (.cells #[.slice A l c, .slice B m d] 88)).cell? ⟨w.heap.size, 1, none⟩ = some (.slice B m d) := by rw [cells_of_alloc]; rfl
 obtain ⟨w1, hw1⟩ : ∃ w1, w.alloc (.cells #[.slice A l c, .slice B m d] 88) = w1 := ⟨_, rfl⟩
 rw [hw1] at hb1 hs1 k0 k1
 have hX := four_new w1 (.int .i64 2) (.int .i64 n) (.string s) (.slice ao len cap) 25
 have hb2 := below_alloc w1 (.cells #[.int .i64 2, .int .i64 n, .string s, .slice ao len cap] 25)
 have hs2 := alloc_size w1 (.cells #[.int .i64 2, .int .i64 n, .string s, .slice ao len cap] 25)
 obtain ⟨w2, hw2⟩ : ∃ w2, w1.alloc (.cells #[.int .i64 2, .int .i64 n, .string s, .slice ao len cap] 25) = w2 := ⟨_, rfl⟩
 rw [hw2] at hX hb2 hs2
 have k0 := (hb2.cell (p := ⟨w.heap.size, 0, none⟩) (show w.heap.size < w1.heap.size by omega)).trans k0
 have k1 := (hb2.cell (p := ⟨w.heap.size, 1, none⟩) (show w.heap.size < w1.heap.size by omega)).trans k1
 have hB := below_to hb1 hb2
 have HB := Lib.hid hB
 obtain ⟨-, e0, e1, e2, e3⟩ := hX
 clear hB hb1 hb2 hs1 hs2
 go_enter Tryz.func52, Tryz.ntmps52
 go_wp2_with fail
 go_ret
 exact ⟨by rw [HS.out]; rfl, HB.out⟩
theorem of_5 (A B : Option Addr) (l c m d : Nat) (n : Int) (s : ByteArray) (ao : Option Addr) (len cap : Nat) (w : World) (X : Va)
  (cF : ∀ w' p, Below w.heap.size w w' → w'.cell? ⟨p, 0, none⟩ = some (.int .i64 5) → Calls Tryz.prog 92 #[KE A l c B m d, .slice ao len cap, .func (.func 93) #[] #[]] w' (Comes w' X)) :
  Calls Tryz.prog 52 #[KE A l c B m d, .agg #[.int .i64 5, .int .i64 n, .string s, .slice ao len cap]] w (Comes w X) := by
 have hmf := mkfunc
 have hb1 := below_alloc w (.cells #[.slice A l c, .slice B m d] 88)
 have hs1 := alloc_size w (.cells #[.slice A l c, .slice B m d] 88)
 have k0 : (w.alloc (.cells #[.slice A l c, .slice B m d] 88)).cell? ⟨w.heap.size, 0, none⟩ = some (.slice A l c) := by rw [cells_of_alloc]; rfl
 have k1 : (w.alloc (.cells #[.slice A l c, .slice B m d] 88)).cell? ⟨w.heap.size, 1, none⟩ = some (.slice B m d) := by rw [cells_of_alloc]; rfl
 obtain ⟨w1, hw1⟩ : ∃ w1, w.alloc (.cells #[.slice A l c, .slice B m d] 88) = w1 := ⟨_, rfl⟩
 rw [hw1] at hb1 hs1 k0 k1
 have hX := four_new w1 (.int .i64 5) (.int .i64 n) (.string s) (.slice ao len cap) 25
 have hb2 := below_alloc w1 (.cells #[.int .i64 5, .int .i64 n, .string s, .slice ao len cap] 25)
 have hs2 := alloc_size w1 (.cells #[.int .i64 5, .int .i64 n, .string s, .slice ao len cap] 25)
 obtain ⟨w2, hw2⟩ : ∃ w2, w1.alloc (.cells #[.int .i64 5, .int .i64 n, .string s, .slice ao len cap] 25) = w2 := ⟨_, rfl⟩
 rw [hw2] at hX hb2 hs2
 have k0 := (hb2.cell (p := ⟨w.heap.size, 0, none⟩) (show w.heap.size < w1.heap.size by omega)).trans k0
 have k1 := (hb2.cell (p := ⟨w.heap.size, 1, none⟩) (show w.heap.size < w1.heap.size by omega)).trans k1
 have hB := below_to hb1 hb2
 have HB := Lib.hid hB
 obtain ⟨-, e0, e1, e2, e3⟩ := hX
 have c1 := cF w2 w1.heap.size hB e0
 clear hB hb1 hb2 hs1 hs2 cF
 go_enter Tryz.func52, Tryz.ntmps52
 go_wp2_with fail
 refine c1.mono ?_
 rintro e w5 ⟨rfl, b5⟩
 go_wp2_with fail
 go_ret
 exact ⟨rfl, below_to HB.out b5⟩
theorem of_7 (A B : Option Addr) (l c m d : Nat) (n : Int) (s : ByteArray) (ao : Option Addr) (len cap : Nat) (w : World) (X : Va)
  (cF : ∀ w' p, Below w.heap.size w w' → w'.cell? ⟨p, 0, none⟩ = some (.int .i64 7) → Calls Tryz.prog 95 #[KE A l c B m d, .slice ao len cap, .func (.func 96) #[] #[.pointer (some ⟨p, 0, none⟩)]] w' (Comes w' X)) :
  Calls Tryz.prog 52 #[KE A l c B m d, .agg #[.int .i64 7, .int .i64 n, .string s, .slice ao len cap]] w (Comes w X) := by
 have hmf := mkfunc
 have hb1 := below_alloc w (.cells #[.slice A l c, .slice B m d] 88)
 have hs1 := alloc_size w (.cells #[.slice A l c, .slice B m d] 88)
 have k0 : (w.alloc (.cells #[.slice A l c, .slice B m d] 88)).cell? ⟨w.heap.size, 0, none⟩ = some (.slice A l c) := by rw [cells_of_alloc]; rfl
 have k1 : (w.alloc (.cells #[.slice A l c, .slice B m d] 88)).cell? ⟨w.heap.size, 1, none⟩ = some (.slice B m d) := by rw [cells_of_alloc]; rfl
 obtain ⟨w1, hw1⟩ : ∃ w1, w.alloc (.cells #[.slice A l c, .slice B m d] 88) = w1 := ⟨_, rfl⟩
 rw [hw1] at hb1 hs1 k0 k1
 have hX := four_new w1 (.int .i64 7) (.int .i64 n) (.string s) (.slice ao len cap) 25
 have hb2 := below_alloc w1 (.cells #[.int .i64 7, .int .i64 n, .string s, .slice ao len cap] 25)
 have hs2 := alloc_size w1 (.cells #[.int .i64 7, .int .i64 n, .string s, .slice ao len cap] 25)
 obtain ⟨w2, hw2⟩ : ∃ w2, w1.alloc (.cells #[.int .i64 7, .int .i64 n, .string s, .slice ao len cap] 25) = w2 := ⟨_, rfl⟩
 rw [hw2] at hX hb2 hs2
 have k0 := (hb2.cell (p := ⟨w.heap.size, 0, none⟩) (show w.heap.size < w1.heap.size by omega)).trans k0
 have k1 := (hb2.cell (p := ⟨w.heap.size, 1, none⟩) (show w.heap.size < w1.heap.size by omega)).trans k1
 have hB := below_to hb1 hb2
 have HB := Lib.hid hB
 obtain ⟨-, e0, e1, e2, e3⟩ := hX
 have c1 := cF w2 w1.heap.size hB e0
 clear hB hb1 hb2 hs1 hs2 cF
 go_enter Tryz.func52, Tryz.ntmps52
 go_wp2_with fail
 refine c1.mono ?_
 rintro e w5 ⟨rfl, b5⟩
 go_wp2_with fail
 go_ret
 exact ⟨rfl, below_to HB.out b5⟩
theorem of_8 (A B : Option Addr) (l c m d : Nat) (n : Int) (s : ByteArray) (ao : Option Addr) (len cap : Nat) (w : World) (X : Va)
  (cF : ∀ w' p, Below w.heap.size w w' → w'.cell? ⟨p, 0, none⟩ = some (.int .i64 8) → Calls Tryz.prog 95 #[KE A l c B m d, .slice ao len cap, .func (.func 96) #[] #[.pointer (some ⟨p, 0, none⟩)]] w' (Comes w' X)) :
  Calls Tryz.prog 52 #[KE A l c B m d, .agg #[.int .i64 8, .int .i64 n, .string s, .slice ao len cap]] w (Comes w X) := by
 have hmf := mkfunc
 have hb1 := below_alloc w (.cells #[.slice A l c, .slice B m d] 88)
 have hs1 := alloc_size w (.cells #[.slice A l c, .slice B m d] 88)
 have k0 : (w.alloc (.cells #[.slice A l c, .slice B m d] 88)).cell? ⟨w.heap.size, 0, none⟩ = some (.slice A l c) := by rw [cells_of_alloc]; rfl
 have k1 : (w.alloc (.cells #[.slice A l c, .slice B m d] 88)).cell? ⟨w.heap.size, 1, none⟩ = some (.slice B m d) := by rw [cells_of_alloc]; rfl
 obtain ⟨w1, hw1⟩ : ∃ w1, w.alloc (.cells #[.slice A l c, .slice B m d] 88) = w1 := ⟨_, rfl⟩
 rw [hw1] at hb1 hs1 k0 k1
 have hX := four_new w1 (.int .i64 8) (.int .i64 n) (.string s) (.slice ao len cap) 25
 have hb2 := below_alloc w1 (.cells #[.int .i64 8, .int .i64 n, .string s, .slice ao len cap] 25)
 have hs2 := alloc_size w1 (.cells #[.int .i64 8, .int .i64 n, .string s, .slice ao len cap] 25)
 obtain ⟨w2, hw2⟩ : ∃ w2, w1.alloc (.cells #[.int .i64 8, .int .i64 n, .string s, .slice ao len cap] 25) = w2 := ⟨_, rfl⟩
 rw [hw2] at hX hb2 hs2
 have k0 := (hb2.cell (p := ⟨w.heap.size, 0, none⟩) (show w.heap.size < w1.heap.size by omega)).trans k0
 have k1 := (hb2.cell (p := ⟨w.heap.size, 1, none⟩) (show w.heap.size < w1.heap.size by omega)).trans k1
 have hB := below_to hb1 hb2
 have HB := Lib.hid hB
 obtain ⟨-, e0, e1, e2, e3⟩ := hX
 have c1 := cF w2 w1.heap.size hB e0
 clear hB hb1 hb2 hs1 hs2 cF
 go_enter Tryz.func52, Tryz.ntmps52
 go_wp2_with fail
 refine c1.mono ?_
 rintro e w5 ⟨rfl, b5⟩
 go_wp2_with fail
 go_ret
 exact ⟨rfl, below_to HB.out b5⟩
theorem of_9 (A B : Option Addr) (l c m d : Nat) (n : Int) (s : ByteArray) (ao : Option Addr) (len cap : Nat) (w : World) (X : Va)
  (cF : ∀ w' p, Below w.heap.size w w' → w'.cell? ⟨p, 0, none⟩ = some (.int .i64 9) → Calls Tryz.prog 95 #[KE A l c B m d, .slice ao len cap, .func (.func 96) #[] #[.pointer (some ⟨p, 0, none⟩)]] w' (Comes w' X)) :
  Calls Tryz.prog 52 #[KE A l c B m d, .agg #[.int .i64 9, .int .i64 n, .string s, .slice ao len cap]] w (Comes w X) := by
 have hmf := mkfunc
 have hb1 := below_alloc w (.cells #[.slice A l c, .slice B m d] 88)
 have hs1 := alloc_size w (.cells #[.slice A l c, .slice B m d] 88)
 have k0 : (w.alloc (.cells #[.slice A l c, .slice B m d] 88)).cell? ⟨w.heap.size, 0, none⟩ = some (.slice A l c) := by rw [cells_of_alloc]; rfl
 have k1 : (w.alloc (.cells #[.slice A l c, .slice B m d] 88)).cell? ⟨w.heap.size, 1, none⟩ = some (.slice B m d) := by rw [cells_of_alloc]; rfl
 obtain ⟨w1, hw1⟩ : ∃ w1, w.alloc (.cells #[.slice A l c, .slice B m d] 88) = w1 := ⟨_, rfl⟩
 rw [hw1] at hb1 hs1 k0 k1
 have hX := four_new w1 (.int .i64 9) (.int .i64 n) (.string s) (.slice ao len cap) 25
 have hb2 := below_alloc w1 (.cells #[.int .i64 9, .int .i64 n, .string s, .slice ao len cap] 25)
 have hs2 := alloc_size w1 (.cells #[.int .i64 9, .int .i64 n, .string s, .slice ao len cap] 25)
 obtain ⟨w2, hw2⟩ : ∃ w2, w1.alloc (.cells #[.int .i64 9, .int .i64 n, .string s, .slice ao len cap] 25) = w2 := ⟨_, rfl⟩
 rw [hw2] at hX hb2 hs2
 have k0 := (hb2.cell (p := ⟨w.heap.size, 0, none⟩) (show w.heap.size < w1.heap.size by omega)).trans k0
 have k1 := (hb2.cell (p := ⟨w.heap.size, 1, none⟩) (show w.heap.size < w1.heap.size by omega)).trans k1
 have hB := below_to hb1 hb2
 have HB := Lib.hid hB
 obtain ⟨-, e0, e1, e2, e3⟩ := hX
 have c1 := cF w2 w1.heap.size hB e0
 clear hB hb1 hb2 hs1 hs2 cF
 go_enter Tryz.func52, Tryz.ntmps52
 go_wp2_with fail
 refine c1.mono ?_
 rintro e w5 ⟨rfl, b5⟩
 go_wp2_with fail
 go_ret
 exact ⟨rfl, below_to HB.out b5⟩
theorem of_10 (A B : Option Addr) (l c m d : Nat) (n : Int) (s : ByteArray) (ao : Option Addr) (len cap : Nat) (w : World) (X : Va)
  (cF : ∀ w' p, Below w.heap.size w w' → w'.cell? ⟨p, 0, none⟩ = some (.int .i64 10) → Calls Tryz.prog 95 #[KE A l c B m d, .slice ao len cap, .func (.func 96) #[] #[.pointer (some ⟨p, 0, none⟩)]] w' (Comes w' X)) :
  Calls Tryz.prog 52 #[KE A l c B m d, .agg #[.int .i64 10, .int .i64 n, .string s, .slice ao len cap]] w (Comes w X) := by
 have hmf := mkfunc
 have hb1 := below_alloc w (.cells #[.slice A l c, .slice B m d] 88)
 have hs1 := alloc_size w (.cells #[.slice A l c, .slice B m d] 88)
 have k0 : (w.alloc (.cells #[.slice A l c, .slice B m d] 88)).cell? ⟨w.heap.size, 0, none⟩ = some (.slice A l c) := by rw [cells_of_alloc]; rfl
 have k1 : (w.alloc (.cells #[.slice A l c, .slice B m d] 88)).cell? ⟨w.heap.size, 1, none⟩ = some (.slice B m d) := by rw [cells_of_alloc]; rfl
 obtain ⟨w1, hw1⟩ : ∃ w1, w.alloc (.cells #[.slice A l c, .slice B m d] 88) = w1 := ⟨_, rfl⟩
 rw [hw1] at hb1 hs1 k0 k1
 have hX := four_new w1 (.int .i64 10) (.int .i64 n) (.string s) (.slice ao len cap) 25
 have hb2 := below_alloc w1 (.cells #[.int .i64 10, .int .i64 n, .string s, .slice ao len cap] 25)
 have hs2 := alloc_size w1 (.cells #[.int .i64 10, .int .i64 n, .string s, .slice ao len cap] 25)
 obtain ⟨w2, hw2⟩ : ∃ w2, w1.alloc (.cells #[.int .i64 10, .int .i64 n, .string s, .slice ao len cap] 25) = w2 := ⟨_, rfl⟩
 rw [hw2] at hX hb2 hs2
 have k0 := (hb2.cell (p := ⟨w.heap.size, 0, none⟩) (show w.heap.size < w1.heap.size by omega)).trans k0
 have k1 := (hb2.cell (p := ⟨w.heap.size, 1, none⟩) (show w.heap.size < w1.heap.size by omega)).trans k1
 have hB := below_to hb1 hb2
 have HB := Lib.hid hB
 obtain ⟨-, e0, e1, e2, e3⟩ := hX
 have c1 := cF w2 w1.heap.size hB e0
 clear hB hb1 hb2 hs1 hs2 cF
 go_enter Tryz.func52, Tryz.ntmps52
 go_wp2_with fail
 refine c1.mono ?_
 rintro e w5 ⟨rfl, b5⟩
 go_wp2_with fail
 go_ret
 exact ⟨rfl, below_to HB.out b5⟩
theorem of_11 (A B : Option Addr) (l c m d : Nat) (n : Int) (s : ByteArray) (ao : Option Addr) (len cap : Nat) (w : World) (X : Va)
  (cF : ∀ w' p, Below w.heap.size w w' → w'.cell? ⟨p, 0, none⟩ = some (.int .i64 11) → Calls Tryz.prog 95 #[KE A l c B m d, .slice ao len cap, .func (.func 96) #[] #[.pointer (some ⟨p, 0, none⟩)]] w' (Comes w' X)) :
  Calls Tryz.prog 52 #[KE A l c B m d, .agg #[.int .i64 11, .int .i64 n, .string s, .slice ao len cap]] w (Comes w X) := by
 have hmf := mkfunc
 have hb1 := below_alloc w (.cells #[.slice A l c, .slice B m d] 88)
 have hs1 := alloc_size w (.cells #[.slice A l c, .slice B m d] 88)
 have k0 : (w.alloc (.cells #[.slice A l c, .slice B m d] 88)).cell? ⟨w.heap.size, 0, none⟩ = some (.slice A l c) := by rw [cells_of_alloc]; rfl
 have k1 : (w.alloc (.cells #[.slice A l c, .slice B m d] 88)).cell? ⟨w.heap.size, 1, none⟩ = some (.slice B m d) := by rw [cells_of_alloc]; rfl
 obtain ⟨w1, hw1⟩ : ∃ w1, w.alloc (.cells #[.slice A l c, .slice B m d] 88) = w1 := ⟨_, rfl⟩
 rw [hw1] at hb1 hs1 k0 k1
 have hX := four_new w1 (.int .i64 11) (.int .i64 n) (.string s) (.slice ao len cap) 25
 have hb2 := below_alloc w1 (.cells #[.int .i64 11, .int .i64 n, .string s, .slice ao len cap] 25)
 have hs2 := alloc_size w1 (.cells #[.int .i64 11, .int .i64 n, .string s, .slice ao len cap] 25)
 obtain ⟨w2, hw2⟩ : ∃ w2, w1.alloc (.cells #[.int .i64 11, .int .i64 n, .string s, .slice ao len cap] 25) = w2 := ⟨_, rfl⟩
 rw [hw2] at hX hb2 hs2
 have k0 := (hb2.cell (p := ⟨w.heap.size, 0, none⟩) (show w.heap.size < w1.heap.size by omega)).trans k0
 have k1 := (hb2.cell (p := ⟨w.heap.size, 1, none⟩) (show w.heap.size < w1.heap.size by omega)).trans k1
 have hB := below_to hb1 hb2
 have HB := Lib.hid hB
 obtain ⟨-, e0, e1, e2, e3⟩ := hX
 have c1 := cF w2 w1.heap.size hB e0
 clear hB hb1 hb2 hs1 hs2 cF
 go_enter Tryz.func52, Tryz.ntmps52
 go_wp2_with fail
 refine c1.mono ?_
 rintro e w5 ⟨rfl, b5⟩
 go_wp2_with fail
 go_ret
 exact ⟨rfl, below_to HB.out b5⟩
theorem of_6 (A B : Option Addr) (l c m d : Nat) (n : Int) (s : ByteArray) (ao : Option Addr) (len cap : Nat) (w : World) (X : Va)
  (cF : ∀ w' p, Below w.heap.size w w' → w'.cell? ⟨p, 0, none⟩ = some (.int .i64 6) → Calls Tryz.prog 97 #[KE A l c B m d, .slice ao len cap, .func (.func 98) #[] #[]] w' (Comes w' X)) :
  Calls Tryz.prog 52 #[KE A l c B m d, .agg #[.int .i64 6, .int .i64 n, .string s, .slice ao len cap]] w (Comes w X) := by
 have hmf := mkfunc
 have hb1 := below_alloc w (.cells #[.slice A l c, .slice B m d] 88)
 have hs1 := alloc_size w (.cells #[.slice A l c, .slice B m d] 88)
 have k0 : (w.alloc (.cells #[.slice A l c, .slice B m d] 88)).cell? ⟨w.heap.size, 0, none⟩ = some (.slice A l c) := by rw [cells_of_alloc]; rfl
 have k1 : (w.alloc (.cells #[.slice A l c, .slice B m d] 88)).cell? ⟨w.heap.size, 1, none⟩ = some (.slice B m d) := by rw [cells_of_alloc]; rfl
 obtain ⟨w1, hw1⟩ : ∃ w1, w.alloc (.cells #[.slice A l c, .slice B m d] 88) = w1 := ⟨_, rfl⟩
 rw [hw1] at hb1 hs1 k0 k1
 have hX := four_new w1 (.int .i64 6) (.int .i64 n) (.string s) (.slice ao len cap) 25
 have hb2 := below_alloc w1 (.cells #[.int .i64 6, .int .i64 n, .string s, .slice ao len cap] 25)
 have hs2 := alloc_size w1 (.cells #[.int .i64 6, .int .i64 n, .string s, .slice ao len cap] 25)
 obtain ⟨w2, hw2⟩ : ∃ w2, w1.alloc (.cells #[.int .i64 6, .int .i64 n, .string s, .slice ao len cap] 25) = w2 := ⟨_, rfl⟩
 rw [hw2] at hX hb2 hs2
 have k0 := (hb2.cell (p := ⟨w.heap.size, 0, none⟩) (show w.heap.size < w1.heap.size by omega)).trans k0
 have k1 := (hb2.cell (p := ⟨w.heap.size, 1, none⟩) (show w.heap.size < w1.heap.size by omega)).trans k1
 have hB := below_to hb1 hb2
 have HB := Lib.hid hB
 obtain ⟨-, e0, e1, e2, e3⟩ := hX
 have c1 := cF w2 w1.heap.size hB e0
 clear hB hb1 hb2 hs1 hs2 cF
 go_enter Tryz.func52, Tryz.ntmps52
 go_wp2_with fail
 refine c1.mono ?_
 rintro e w5 ⟨rfl, b5⟩
 go_wp2_with fail
 go_ret
 exact ⟨rfl, below_to HB.out b5⟩
theorem of_16 (A B : Option Addr) (l c m d : Nat) (n : Int) (s : ByteArray) (ao : Option Addr) (len cap : Nat) (w : World) (X : Va)
  (cF : ∀ w' p, Below w.heap.size w w' → w'.cell? ⟨p, 0, none⟩ = some (.int .i64 16) → Calls Tryz.prog 99 #[KE A l c B m d, .slice ao len cap, .bool false] w' (Comes w' X)) :
  Calls Tryz.prog 52 #[KE A l c B m d, .agg #[.int .i64 16, .int .i64 n, .string s, .slice ao len cap]] w (Comes w X) := by
 have hmf := mkfunc
 have hb1 := below_alloc w (.cells #[.slice A l c, .slice B m d] 88)
 have hs1 := alloc_size w (.cells #[.slice A l c, .slice B m d] 88)
 have k0 : (w.alloc (.cells #[.slice A l c, .slice B m d] 88)).cell? ⟨w.heap.size, 0, none⟩ = some (.slice A l c) := by rw [cells_of_alloc]; rfl
 have k1 : (w.alloc (.cells #[.slice A l c, .slice B m d] 88)).cell? ⟨w.heap.size, 1, none⟩ = some (.slice B m d) := by rw [cells_of_alloc]; rfl
 obtain ⟨w1, hw1⟩ : ∃ w1, w.alloc (.cells #[.slice A l c, .slice B m d] 88) = w1 := ⟨_, rfl⟩
 rw [hw1] at hb1 hs1 k0 k1
 have hX := four_new w1 (.int .i64 16) (.int .i64 n) (.string s) (.slice ao len cap) 25
 have hb2 := below_alloc w1 (.cells #[.int .i64 16, .int .i64 n, .string s, .slice ao len cap] 25)
 have hs2 := alloc_size w1 (.cells #[.int .i64 16, .int .i64 n, .string s, .slice ao len cap] 25)
 obtain ⟨w2, hw2⟩ : ∃ w2, w1.alloc (.cells #[.int .i64 16, .int .i64 n, .string s, .slice ao len cap] 25) = w2 := ⟨_, rfl⟩
 rw [hw2] at hX hb2 hs2
 have k0 := (hb2.cell (p := ⟨w.heap.size, 0, none⟩) (show w.heap.size < w1.heap.size by omega)).trans k0
 have k1 := (hb2.cell (p := ⟨w.heap.size, 1, none⟩) (show w.heap.size < w1.heap.size by omega)).trans k1
 have hB := below_to hb1 hb2
 have HB := Lib.hid hB
 obtain ⟨-, e0, e1, e2, e3⟩ := hX
 have c1 := cF w2 w1.heap.size hB e0
 clear hB hb1 hb2 hs1 hs2 cF
 go_enter Tryz.func52, Tryz.ntmps52
 go_wp2_with fail
 refine c1.mono ?_
 rintro e w5 ⟨rfl, b5⟩
 go_wp2_with fail
 go_ret
 exact ⟨rfl, below_to HB.out b5⟩
theorem of_17 (A B : Option Addr) (l c m d : Nat) (n : Int) (s : ByteArray) (ao : Option Addr) (len cap : Nat) (w : World) (X : Va)
  (cF : ∀ w' p, Below w.heap.size w w' → w'.cell? ⟨p, 0, none⟩ = some (.int .i64 17) → Calls Tryz.prog 99 #[KE A l c B m d, .slice ao len cap, .bool true] w' (Comes w' X)) :
  Calls Tryz.prog 52 #[KE A l c B m d, .agg #[.int .i64 17, .int .i64 n, .string s, .slice ao len cap]] w (Comes w X) := by
 have hmf := mkfunc
 have hb1 := below_alloc w (.cells #[.slice A l c, .slice B m d] 88)
 have hs1 := alloc_size w (.cells #[.slice A l c, .slice B m d] 88)
 have k0 : (w.alloc (.cells #[.slice A l c, .slice B m d] 88)).cell? ⟨w.heap.size, 0, none⟩ = some (.slice A l c) := by rw [cells_of_alloc]; rfl
 have k1 : (w.alloc (.cells #[.slice A l c, .slice B m d] 88)).cell? ⟨w.heap.size, 1, none⟩ = some (.slice B m d) := by rw [cells_of_alloc]; rfl
 obtain ⟨w1, hw1⟩ : ∃ w1, w.alloc (.cells #[.slice A l c, .slice B m d] 88) = w1 := ⟨_, rfl⟩
 rw [hw1] at hb1 hs1 k0 k1
 have hX := four_new w1 (.int .i64 17) (.int .i64 n) (.string s) (.slice ao len cap) 25
 have hb2 := below_alloc w1 (.cells #[.int .i64 17, .int .i64 n, .string s, .slice ao len cap] 25)
 have hs2 := alloc_size w1 (.cells #[.int .i64 17, .int .i64 n, .string s, .slice ao len cap] 25)
 obtain ⟨w2, hw2⟩ : ∃ w2, w1.alloc (.cells #[.int .i64 17, .int .i64 n, .string s, .slice ao len cap] 25) = w2 := ⟨_, rfl⟩
 rw [hw2] at hX hb2 hs2
 have k0 := (hb2.cell (p := ⟨w.heap.size, 0, none⟩) (show w.heap.size < w1.heap.size by omega)).trans k0
 have k1 := (hb2.cell (p := ⟨w.heap.size, 1, none⟩) (show w.heap.size < w1.heap.size by omega)).trans k1
 have hB := below_to hb1 hb2
 have HB := Lib.hid hB
 obtain ⟨-, e0, e1, e2, e3⟩ := hX
 have c1 := cF w2 w1.heap.size hB e0
 clear hB hb1 hb2 hs1 hs2 cF
 go_enter Tryz.func52, Tryz.ntmps52
 go_wp2_with fail
 refine c1.mono ?_
 rintro e w5 ⟨rfl, b5⟩
 go_wp2_with fail
 go_ret
 exact ⟨rfl, below_to HB.out b5⟩
theorem of_12 (A B : Option Addr) (l c m d : Nat) (n : Int) (s : ByteArray) (ao : Option Addr) (len cap : Nat) (w : World) (X : Va)
  (cF : ∀ w' p, Below w.heap.size w w' → w'.cell? ⟨p, 0, none⟩ = some (.int .i64 12) → Calls Tryz.prog 100 #[KE A l c B m d, .int .i64 12, .slice ao len cap] w' (Comes w' X)) :
  Calls Tryz.prog 52 #[KE A l c B m d, .agg #[.int .i64 12, .int .i64 n, .string s, .slice ao len cap]] w (Comes w X) := by
 have hmf := mkfunc
 have hb1 := below_alloc w (.cells #[.slice A l c, .slice B m d] 88)
 have hs1 := alloc_size w (.cells #[.slice A l c, .slice B m d] 88)
 have k0 : (w.alloc (.cells #[.slice A l c, .slice B m d] 88)).cell? ⟨w.heap.size, 0, none⟩ = some (.slice A l c) := by rw [cells_of_alloc]; rfl
 have k1 : (w.alloc (.cells #[.slice A l c, .slice B m d] 88)).cell? ⟨w.heap.size, 1, none⟩ = some (.slice B m d) := by rw [cells_of_alloc]; rfl
 obtain ⟨w1, hw1⟩ : ∃ w1, w.alloc (.cells #[.slice A l c, .slice B m d] 88) = w1 := ⟨_, rfl⟩
 rw [hw1] at hb1 hs1 k0 k1
 have hX := four_new w1 (.int .i64 12) (.int .i64 n) (.string s) (.slice ao len cap) 25
 have hb2 := below_alloc w1 (.cells #[.int .i64 12, .int .i64 n, .string s, .slice ao len cap] 25)
 have hs2 := alloc_size w1 (.cells #[.int .i64 12, .int .i64 n, .string s, .slice ao len cap] 25)
 obtain ⟨w2, hw2⟩ : ∃ w2, w1.alloc (.cells #[.int .i64 12, .int .i64 n, .string s, .slice ao len cap] 25) = w2 := ⟨_, rfl⟩
 rw [hw2] at hX hb2 hs2
 have k0 := (hb2.cell (p := ⟨w.heap.size, 0, none⟩) (show w.heap.size < w1.heap.size by omega)).trans k0
 have k1 := (hb2.cell (p := ⟨w.heap.size, 1, none⟩) (show w.heap.size < w1.heap.size by omega)).trans k1
 have hB := below_to hb1 hb2
 have HB := Lib.hid hB
 obtain ⟨-, e0, e1, e2, e3⟩ := hX
 have c1 := cF w2 w1.heap.size hB e0
 clear hB hb1 hb2 hs1 hs2 cF
 go_enter Tryz.func52, Tryz.ntmps52
 go_wp2_with fail
 refine c1.mono ?_
 rintro e w5 ⟨rfl, b5⟩
 go_wp2_with fail
 go_ret
 exact ⟨rfl, below_to HB.out b5⟩
theorem of_13 (A B : Option Addr) (l c m d : Nat) (n : Int) (s : ByteArray) (ao : Option Addr) (len cap : Nat) (w : World) (X : Va)
  (cF : ∀ w' p, Below w.heap.size w w' → w'.cell? ⟨p, 0, none⟩ = some (.int .i64 13) → Calls Tryz.prog 100 #[KE A l c B m d, .int .i64 13, .slice ao len cap] w' (Comes w' X)) :
  Calls Tryz.prog 52 #[KE A l c B m d, .agg #[.int .i64 13, .int .i64 n, .string s, .slice ao len cap]] w (Comes w X) := by
 have hmf := mkfunc
 have hb1 := below_alloc w (.cells #[.slice A l c, .slice B m d] 88)
 have hs1 := alloc_size w (.cells #[.slice A l c, .slice B m d] 88)
 have k0 : (w.alloc (.cells #[.slice A l c, .slice B m d] 88)).cell? ⟨w.heap.size, 0, none⟩ = some (.slice A l c) := by rw [cells_of_alloc]; rfl
 have k1 : (w.alloc (.cells #[.slice A l c, .slice B m d] 88)).cell? ⟨w.heap.size, 1, none⟩ = some (.slice B m d) := by rw [cells_of_alloc]; rfl
 obtain ⟨w1, hw1⟩ : ∃ w1, w.alloc (.cells #[.slice A l c, .slice B m d] 88) = w1 := ⟨_, rfl⟩
 rw [hw1] at hb1 hs1 k0 k1
 have hX := four_new w1 (.int .i64 13) (.int .i64 n) (.string s) (.slice ao len cap) 25
 have hb2 := below_alloc w1 (.cells #[.int .i64 13, .int .i64 n, .string s, .slice ao len cap] 25)
 have hs2 := alloc_size w1 (.cells #[.int .i64 13, .int .i64 n, .string s, .slice ao len cap] 25)
 obtain ⟨w2, hw2⟩ : ∃ w2, w1.alloc (.cells #[.int .i64 13, .int .i64 n, .string s, .slice ao len cap] 25) = w2 := ⟨_, rfl⟩
 rw [hw2] at hX hb2 hs2
 have k0 := (hb2.cell (p := ⟨w.heap.size, 0, none⟩) (show w.heap.size < w1.heap.size by omega)).trans k0
 have k1 := (hb2.cell (p := ⟨w.heap.size, 1, none⟩) (show w.heap.size < w1.heap.size by omega)).trans k1
 have hB := below_to hb1 hb2
 have HB := Lib.hid hB
 obtain ⟨-, e0, e1, e2, e3⟩ := hX
 have c1 := cF w2 w1.heap.size hB e0
 clear hB hb1 hb2 hs1 hs2 cF
 go_enter Tryz.func52, Tryz.ntmps52
 go_wp2_with fail
 refine c1.mono ?_
 rintro e w5 ⟨rfl, b5⟩
 go_wp2_with fail
 go_ret
 exact ⟨rfl, below_to HB.out b5⟩
theorem of_14 (A B : Option Addr) (l c m d : Nat) (n : Int) (s : ByteArray) (ao : Option Addr) (len cap : Nat) (w : World) (X : Va)
  (cF : ∀ w' p, Below w.heap.size w w' → w'.cell? ⟨p, 0, none⟩ = some (.int .i64 14) → Calls Tryz.prog 100 #[KE A l c B m d, .int .i64 14, .slice ao len cap] w' (Comes w' X)) :
  Calls Tryz.prog 52 #[KE A l c B m d, .agg #[.int .i64 14, .int .i64 n, .string s, .slice ao len cap]] w (Comes w X) := by
 have hmf := mkfunc
 have hb1 := below_alloc w (.cells #[.slice A l c, .slice B m d] 88)
 have hs1 := alloc_size w (.cells #[.slice A l c, .slice B m d] 88)
 have k0 : (w.alloc (.cells #[.slice A l c, .slice B m d] 88)).cell? ⟨w.heap.size, 0, none⟩ = some (.slice A l c) := by rw [cells_of_alloc]; rfl
 have k1 : (w.alloc (.cells #[.slice A l c, .slice B m d] 88)).cell? ⟨w.heap.size, 1, none⟩ = some (.slice B m d) := by rw [cells_of_alloc]; rfl
 obtain ⟨w1, hw1⟩ : ∃ w1, w.alloc (.cells #[.slice A l c, .slice B m d] 88) = w1 := ⟨_, rfl⟩
 rw [hw1] at hb1 hs1 k0 k1
 have hX := four_new w1 (.int .i64 14) (.int .i64 n) (.string s) (.slice ao len cap) 25
 have hb2 := below_alloc w1 (.cells #[.int .i64 14, .int .i64 n, .string s, .slice ao len cap] 25)
 have hs2 := alloc_size w1 (.cells #[.int .i64 14, .int .i64 n, .string s, .slice ao len cap] 25)
 obtain ⟨w2, hw2⟩ : ∃ w2, w1.alloc (.cells #[.int .i64 14, .int .i64 n, .string s, .slice ao len cap] 25) = w2 := ⟨_, rfl⟩
 rw [hw2] at hX hb2 hs2
 have k0 := (hb2.cell (p := ⟨w.heap.size, 0, none⟩) (show w.heap.size < w1.heap.size by omega)).trans k0
 have k1 := (hb2.cell (p := ⟨w.heap.size, 1, none⟩) (show w.heap.size < w1.heap.size by omega)).trans k1
 have hB := below_to hb1 hb2
 have HB := Lib.hid hB
 obtain ⟨-, e0, e1, e2, e3⟩ := hX
 have c1 := cF w2 w1.heap.size hB e0
 clear hB hb1 hb2 hs1 hs2 cF
 go_enter Tryz.func52, Tryz.ntmps52
 go_wp2_with fail
 refine c1.mono ?_
 rintro e w5 ⟨rfl, b5⟩
 go_wp2_with fail
 go_ret
 exact ⟨rfl, below_to HB.out b5⟩
theorem of_15 (A B : Option Addr) (l c m d : Nat) (n : Int) (s : ByteArray) (ao : Option Addr) (len cap : Nat) (w : World) (X : Va)
  (cF : ∀ w' p, Below w.heap.size w w' → w'.cell? ⟨p, 0, none⟩ = some (.int .i64 15) → Calls Tryz.prog 100 #[KE A l c B m d, .int .i64 15, .slice ao len cap] w' (Comes w' X)) :
  Calls Tryz.prog 52 #[KE A l c B m d, .agg #[.int .i64 15, .int .i64 n, .string s, .slice ao len cap]] w (Comes w X) := by
 have hmf := mkfunc
 have hb1 := below_alloc w (.cells #[.slice A l c, .slice B m d] 88)
 have hs1 := alloc_size w (.cells #[.slice A l c, .slice B m d] 88)
 have k0 : (w.alloc (.cells #[.slice A l c, .slice B m d] 88)).cell? ⟨w.heap.size, 0, none⟩ = some (.slice A l c) := by rw [cells_of_alloc]; rfl
 have k1 : (w.alloc (.cells #[.slice A l c, .slice B m d] 88)).cell? ⟨w.heap.size, 1, none⟩ = some (.slice B m d) := by rw [cells_of_alloc]; rfl
 obtain ⟨w1, hw1⟩ : ∃ w1, w.alloc (.cells #[.slice A l c, .slice B m d] 88) = w1 := ⟨_, rfl⟩
 rw [hw1] at hb1 hs1 k0 k1
 have hX := four_new w1 (.int .i64 15) (.int .i64 n) (.string s) (.slice ao len cap) 25
 have hb2 := below_alloc w1 (.cells #[.int .i64 15, .int .i64 n, .string s, .slice ao len cap] 25)
 have hs2 := alloc_size w1 (.cells #[.int .i64 15, .int .i64 n, .string s, .slice ao len cap] 25)
 obtain ⟨w2, hw2⟩ : ∃ w2, w1.alloc (.cells #[.int .i64 15, .int .i64 n, .string s, .slice ao len cap] 25) = w2 := ⟨_, rfl⟩
 rw [hw2] at hX hb2 hs2
 have k0 := (hb2.cell (p := ⟨w.heap.size, 0, none⟩) (show w.heap.size < w1.heap.size by omega)).trans k0
 have k1 := (hb2.cell (p := ⟨w.heap.size, 1, none⟩) (show w.heap.size < w1.heap.size by omega)).trans k1
 have hB := below_to hb1 hb2
 have HB := Lib.hid hB
 obtain ⟨-, e0, e1, e2, e3⟩ := hX
 have c1 := cF w2 w1.heap.size hB e0
 clear hB hb1 hb2 hs1 hs2 cF
 go_enter Tryz.func52, Tryz.ntmps52
 go_wp2_with fail
 refine c1.mono ?_
 rintro e w5 ⟨rfl, b5⟩
 go_wp2_with fail
 go_ret
 exact ⟨rfl, below_to HB.out b5⟩
theorem of_18 (A B : Option Addr) (l c m d : Nat) (n : Int) (s : ByteArray) (ao : Option Addr) (len cap : Nat) (w : World) (X : Va)
  (cF : ∀ w' p, Below w.heap.size w w' → w'.cell? ⟨p, 0, none⟩ = some (.int .i64 18) → Calls Tryz.prog 101 #[KE A l c B m d, .slice ao len cap] w' (Comes w' X)) :
  Calls Tryz.prog 52 #[KE A l c B m d, .agg #[.int .i64 18, .int .i64 n, .string s, .slice ao len cap]] w (Comes w X) := by
 have hmf := mkfunc
 have hb1 := below_alloc w (.cells #[.slice A l c, .slice B m d] 88)
 have hs1 := alloc_size w (.cells #[.slice A l c, .slice B m d] 88)
 have k0 : (w.alloc (.cells #[.slice A l c, .slice B m d] 88)).cell? ⟨w.heap.size, 0, none⟩ = some (.slice A l c) := by rw [cells_of_alloc]; rfl
 have k1 : (w.alloc (.cells #[.slice A l c, .slice B m d] 88)).cell? ⟨w.heap.size, 1, none⟩ = some (.slice B m d) := by rw [cells_of_alloc]; rfl
 obtain ⟨w1, hw1⟩ : ∃ w1, w.alloc (.cells #[.slice A l c, .slice B m d] 88) = w1 := ⟨_, rfl⟩
 rw [hw1] at hb1 hs1 k0 k1
 have hX := four_new w1 (.int .i64 18) (.int .i64 n) (.string s) (.slice ao len cap) 25
 have hb2 := below_alloc w1 (.cells #[.int .i64 18, .int .i64 n, .string s, .slice ao len cap] 25)
 have hs2 := alloc_size w1 (.cells #[.int .i64 18, .int .i64 n, .string s, .slice ao len cap] 25)
 obtain ⟨w2, hw2⟩ : ∃ w2, w1.alloc (.cells #[.int .i64 18, .int .i64 n, .string s, .slice ao len cap] 25) = w2 := ⟨_, rfl⟩
 rw [hw2] at hX hb2 hs2
 have k0 := (hb2.cell (p := ⟨w.heap.size, 0, none⟩) (show w.heap.size < w1.heap.size by omega)).trans k0
 have k1 := (hb2.cell (p := ⟨w.heap.size, 1, none⟩) (show w.heap.size < w1.heap.size by omega)).trans k1
 have hB := below_to hb1 hb2
 have HB := Lib.hid hB
 obtain ⟨-, e0, e1, e2, e3⟩ := hX
 have c1 := cF w2 w1.heap.size hB e0
 clear hB hb1 hb2 hs1 hs2 cF
 go_enter Tryz.func52, Tryz.ntmps52
 go_wp2_with fail
 refine c1.mono ?_
 rintro e w5 ⟨rfl, b5⟩
 go_wp2_with fail
 go_ret
 exact ⟨rfl, below_to HB.out b5⟩
theorem of_19 (A B : Option Addr) (l c m d : Nat) (n : Int) (s : ByteArray) (ao : Option Addr) (len cap : Nat) (w : World) (X : Va)
  (cF : ∀ w' p, Below w.heap.size w w' → w'.cell? ⟨p, 0, none⟩ = some (.int .i64 19) → Calls Tryz.prog 102 #[KE A l c B m d, .slice ao len cap, .func (.func 103) #[] #[]] w' (Comes w' X)) :
  Calls Tryz.prog 52 #[KE A l c B m d, .agg #[.int .i64 19, .int .i64 n, .string s, .slice ao len cap]] w (Comes w X) := by
 have hmf := mkfunc
 have hb1 := below_alloc w (.cells #[.slice A l c, .slice B m d] 88)
 have hs1 := alloc_size w (.cells #[.slice A l c, .slice B m d] 88)
 have k0 : (w.alloc (.cells #[.slice A l c, .slice B m d] 88)).cell? ⟨w.heap.size, 0, none⟩ = some (.slice A l c) := by rw [cells_of_alloc]; rfl
 have k1 : (w.alloc (.cells #[.slice A l c, .slice B m d] 88)).cell? ⟨w.heap.size, 1, none⟩ = some (.slice B m d) := by rw [cells_of_alloc]; rfl
 obtain ⟨w1, hw1⟩ : ∃ w1, w.alloc (.cells #[.slice A l c, .slice B m d] 88) = w1 := ⟨_, rfl⟩
 rw [hw1] at hb1 hs1 k0 k1
 have hX := four_new w1 (.int .i64 19) (.int .i64 n) (.string s) (.slice ao len cap) 25
 have hb2 := below_alloc w1 (.cells #[.int .i64 19, .int .i64 n, .string s, .slice ao len cap] 25)
 have hs2 := alloc_size w1 (.cells #[.int .i64 19, .int .i64 n, .string s, .slice ao len cap] 25)
 obtain ⟨w2, hw2⟩ : ∃ w2, w1.alloc (.cells #[.int .i64 19, .int .i64 n, .string s, .slice ao len cap] 25) = w2 := ⟨_, rfl⟩
 rw [hw2] at hX hb2 hs2
 have k0 := (hb2.cell (p := ⟨w.heap.size, 0, none⟩) (show w.heap.size < w1.heap.size by omega)).trans k0
 have k1 := (hb2.cell (p := ⟨w.heap.size, 1, none⟩) (show w.heap.size < w1.heap.size by omega)).trans k1
 have hB := below_to hb1 hb2
 have HB := Lib.hid hB
 obtain ⟨-, e0, e1, e2, e3⟩ := hX
 have c1 := cF w2 w1.heap.size hB e0
 clear hB hb1 hb2 hs1 hs2 cF
 go_enter Tryz.func52, Tryz.ntmps52
 go_wp2_with fail
 refine c1.mono ?_
 rintro e w5 ⟨rfl, b5⟩
 go_wp2_with fail
 go_ret
 exact ⟨rfl, below_to HB.out b5⟩
theorem of_20 (A B : Option Addr) (l c m d : Nat) (n : Int) (s : ByteArray) (ao : Option Addr) (len cap : Nat) (w : World) (X : Va)
  (cF : ∀ w' p, Below w.heap.size w w' → w'.cell? ⟨p, 0, none⟩ = some (.int .i64 20) → Calls Tryz.prog 105 #[KE A l c B m d, .slice ao len cap, .func (.func 106) #[] #[]] w' (Comes w' X)) :
  Calls Tryz.prog 52 #[KE A l c B m d, .agg #[.int .i64 20, .int .i64 n, .string s, .slice ao len cap]] w (Comes w X) := by
 have hmf := mkfunc
 have hb1 := below_alloc w (.cells #[.slice A l c, .slice B m d] 88)
 have hs1 := alloc_size w (.cells #[.slice A l c, .slice B m d] 88)
 have k0 : (w.alloc (.cells #[.slice A l c, .slice B m d] 88)).cell? ⟨w.heap.size, 0, none⟩ = some (.slice A l c) := by rw [cells_of_alloc]; rfl
 have k1 : (w.alloc (.cells #[.slice A l c, .slice B m d] 88)).cell? ⟨w.heap.size, 1, none⟩ = some (.slice B m d) := by rw [cells_of_alloc]; rfl
 obtain ⟨w1, hw1⟩ : ∃ w1, w.alloc (.cells #[.slice A l c, .slice B m d] 88) = w1 := ⟨_, rfl⟩
 rw [hw1] at hb1 hs1 k0 k1
 have hX := four_new w1 (.int .i64 20) (.int .i64 n) (.string s) (.slice ao len cap) 25
 have hb2 := below_alloc w1 (.cells #[.int .i64 20, .int .i64 n, .string s, .slice ao len cap] 25)
 have hs2 := alloc_size w1 (.cells #[.int .i64 20, .int .i64 n, .string s, .slice ao len cap] 25)
 obtain ⟨w2, hw2⟩ : ∃ w2, w1.alloc (.cells #[.int .i64 20, .int .i64 n, .string s, .slice ao len cap] 25) = w2 := ⟨_, rfl⟩
 rw [hw2] at hX hb2 hs2
 have k0 := (hb2.cell (p := ⟨w.heap.size, 0, none⟩) (show w.heap.size < w1.heap.size by omega)).trans k0
 have k1 := (hb2.cell (p := ⟨w.heap.size, 1, none⟩) (show w.heap.size < w1.heap.size by omega)).trans k1
 have hB := below_to hb1 hb2
 have HB := Lib.hid hB
 obtain ⟨-, e0, e1, e2, e3⟩ := hX
 have c1 := cF w2 w1.heap.size hB e0
 clear hB hb1 hb2 hs1 hs2 cF
 go_enter Tryz.func52, Tryz.ntmps52
 go_wp2_with fail
 refine c1.mono ?_
 rintro e w5 ⟨rfl, b5⟩
 go_wp2_with fail
 go_ret
 exact ⟨rfl, below_to HB.out b5⟩
theorem of_21 (A B : Option Addr) (l c m d : Nat) (n : Int) (s : ByteArray) (ao : Option Addr) (len cap : Nat) (w : World) (X : Va)
  (cF : ∀ w' p, Below w.heap.size w w' → w'.cell? ⟨p, 0, none⟩ = some (.int .i64 21) → Calls Tryz.prog 108 #[KE A l c B m d, .slice ao len cap, .func (.func 109) #[] #[]] w' (Comes w' X)) :
  Calls Tryz.prog 52 #[KE A l c B m d, .agg #[.int .i64 21, .int .i64 n, .string s, .slice ao len cap]] w (Comes w X) := by
 have hmf := mkfunc
 have hb1 := below_alloc w (.cells #[.slice A l c, .slice B m d] 88)
 have hs1 := alloc_size w (.cells #[.slice A l c, .slice B m d] 88)
 have k0 : (w.alloc (.cells #[.slice A l c, .slice B m d] 88)).cell? ⟨w.heap.size, 0, none⟩ = some (.slice A l c) := by rw [cells_of_alloc]; rfl
 have k1 : (w.alloc (.cells #[.slice A l c, .slice B m d] 88)).cell? ⟨w.heap.size, 1, none⟩ = some (.slice B m d) := by rw [cells_of_alloc]; rfl
 obtain ⟨w1, hw1⟩ : ∃ w1, w.alloc (.cells #[.slice A l c, .slice B m d] 88) = w1 := ⟨_, rfl⟩
 rw [hw1] at hb1 hs1 k0 k1
 have hX := four_new w1 (.int .i64 21) (.int .i64 n) (.string s) (.slice ao len cap) 25
 have hb2 := below_alloc w1 (.cells #[.int .i64 21, .int .i64 n, .string s, .slice ao len cap] 25)
 have hs2 := alloc_size w1 (.cells #[.int .i64 21, .int .i64 n, .string s, .slice ao len cap] 25)
 obtain ⟨w2, hw2⟩ : ∃ w2, w1.alloc (.cells #[.int .i64 21, .int .i64 n, .string s, .slice ao len cap] 25) = w2 := ⟨_, rfl⟩
 rw [hw2] at hX hb2 hs2
 have k0 := (hb2.cell (p := ⟨w.heap.size, 0, none⟩) (show w.heap.size < w1.heap.size by omega)).trans k0
 have k1 := (hb2.cell (p := ⟨w.heap.size, 1, none⟩) (show w.heap.size < w1.heap.size by omega)).trans k1
 have hB := below_to hb1 hb2
 have HB := Lib.hid hB
 obtain ⟨-, e0, e1, e2, e3⟩ := hX
 have c1 := cF w2 w1.heap.size hB e0
 clear hB hb1 hb2 hs1 hs2 cF
 go_enter Tryz.func52, Tryz.ntmps52
 go_wp2_with fail
 refine c1.mono ?_
 rintro e w5 ⟨rfl, b5⟩
 go_wp2_with fail
 go_ret
 exact ⟨rfl, below_to HB.out b5⟩
theorem of_23 (A B : Option Addr) (l c m d : Nat) (n : Int) (s : ByteArray) (ao : Option Addr) (len cap : Nat) (w : World) (X : Va)
  (cF : ∀ w' p, Below w.heap.size w w' → w'.cell? ⟨p, 0, none⟩ = some (.int .i64 23) → Calls Tryz.prog 102 #[KE A l c B m d, .slice ao len cap, .func (.func 111) #[] #[]] w' (Comes w' X)) :
  Calls Tryz.prog 52 #[KE A l c B m d, .agg #[.int .i64 23, .int .i64 n, .string s, .slice ao len cap]] w (Comes w X) := by
 have hmf := mkfunc
 have hb1 := below_alloc w (.cells #[.slice A l c, .slice B m d] 88)
 have hs1 := alloc_size w (.cells #[.slice A l c, .slice B m d] 88)
 have k0 : (w.alloc (.cells #[.slice A l c, .slice B m d] 88)).cell? ⟨w.heap.size, 0, none⟩ = some (.slice A l c) := by rw [cells_of_alloc]; rfl
 have k1 : (w.alloc (.cells #[.slice A l c, .slice B m d] 88)).cell? ⟨w.heap.size, 1, none⟩ = some (.slice B m d) := by rw [cells_of_alloc]; rfl
 obtain ⟨w1, hw1⟩ : ∃ w1, w.alloc (.cells #[.slice A l c, .slice B m d] 88) = w1 := ⟨_, rfl⟩
 rw [hw1] at hb1 hs1 k0 k1
 have hX := four_new w1 (.int .i64 23) (.int .i64 n) (.string s) (.slice ao len cap) 25
 have hb2 := below_alloc w1 (.cells #[.int .i64 23, .int .i64 n, .string s, .slice ao len cap] 25)
 have hs2 := alloc_size w1 (.cells #[.int .i64 23, .int .i64 n, .string s, .slice ao len cap] 25)
 obtain ⟨w2, hw2⟩ : ∃ w2, w1.alloc (.cells #[.int .i64 23, .int .i64 n, .string s, .slice ao len cap] 25) = w2 := ⟨_, rfl⟩
 rw [hw2] at hX hb2 hs2
 have k0 := (hb2.cell (p := ⟨w.heap.size, 0, none⟩) (show w.heap.size < w1.heap.size by omega)).trans k0
 have k1 := (hb2.cell (p := ⟨w.heap.size, 1, none⟩) (show w.heap.size < w1.heap.size by omega)).trans k1
 have hB := below_to hb1 hb2
 have HB := Lib.hid hB
 obtain ⟨-, e0, e1, e2, e3⟩ := hX
 have c1 := cF w2 w1.heap.size hB e0
 clear hB hb1 hb2 hs1 hs2 cF
 go_enter Tryz.func52, Tryz.ntmps52
 go_wp2_with fail
 refine c1.mono ?_
 rintro e w5 ⟨rfl, b5⟩
 go_wp2_with fail
 go_ret
 exact ⟨rfl, below_to HB.out b5⟩
theorem of_name (A B : Option Addr) (l c m d : Nat) (n : Int) (s : ByteArray) (ao : Option Addr) (len cap : Nat) (w : World) (X : Va)
  (cF : ∀ w', Below w.heap.size w w' → Calls Tryz.prog 90 #[KE A l c B m d, .string s] w' (Comes w' X)) :
  Calls Tryz.prog 52 #[KE A l c B m d, .agg #[.int .i64 4, .int .i64 n, .string s, .slice ao len cap]] w (Comes w X) := by
 have hmf := mkfunc
 have hb1 := below_alloc w (.cells #[.slice A l c, .slice B m d] 88)
 have hs1 := alloc_size w (.cells #[.slice A l c, .slice B m d] 88)
 have k0 : (w.alloc (.cells #[.slice A l c, .slice B m d] 88)).cell? ⟨w.heap.size, 0, none⟩ = some (.slice A l c) := by rw [cells_of_alloc]; rfl
 have k1 : (w.alloc (.cells #[.slice A l c, .slice B m d] 88)).cell? ⟨w.heap.size, 1, none⟩ = some (.slice B m d) := by rw [cells_of_alloc]; rfl
 obtain ⟨w1, hw1⟩ : ∃ w1, w.alloc (.cells #[.slice A l c, .slice B m d] 88) = w1 := ⟨_, rfl⟩
 rw [hw1] at hb1 hs1 k0 k1
 have hX := four_new w1 (.int .i64 4) (.int .i64 n) (.string s) (.slice ao len cap) 25
 have hb2 := below_alloc w1 (.cells #[.int .i64 4, .int .i64 n, .string s, .slice ao len cap] 25)
 have hs2 := alloc_size w1 (.cells #[.int .i64 4, .int .i64 n, .string s, .slice ao len cap] 25)
 obtain ⟨w2, hw2⟩ : ∃ w2, w1.alloc (.cells #[.int .i64 4, .int .i64 n, .string s, .slice ao len cap] 25) = w2 := ⟨_, rfl⟩
 rw [hw2] at hX hb2 hs2
 have k0 := (hb2.cell (p := ⟨w.heap.size, 0, none⟩) (show w.heap.size < w1.heap.size by omega)).trans k0
 have k1 := (hb2.cell (p := ⟨w.heap.size, 1, none⟩) (show w.heap.size < w1.heap.size by omega)).trans k1
 have hB := below_to hb1 hb2
 have HB := Lib.hid hB
 obtain ⟨-, e0, e1, e2, e3⟩ := hX
 have c1 := cF w2 hB
 clear hB hb1 hb2 hs1 hs2 cF
 go_enter Tryz.func52, Tryz.ntmps52
 go_wp2_with fail
 refine c1.mono ?_
 rintro e w5 ⟨rfl, b5⟩
 go_wp2_with fail
 go_ret
 exact ⟨rfl, below_to HB.out b5⟩
theorem of_22 (A B : Option Addr) (l c m d : Nat) (n : Int) (s : ByteArray) (g o len cap : Nat) (w : World) (X : Va) (t : ByteArray) (hX : X.ok) (hlen : 0 < len) (t0 : w.cell? ⟨g, o + 2, none⟩ = some (.string t))
  (cF : ∀ w', Below w.heap.size w w' → Calls Tryz.prog 90 #[KE A l c B m d, .string t] w' (Comes w' X)) :
  Calls Tryz.prog 52 #[KE A l c B m d, .agg #[.int .i64 22, .int .i64 n, .string s, .slice (some ⟨g, o, none⟩) len cap]] w (Comes w (truV (hasV X))) := by
 have hmf := mkfunc
 have hb1 := below_alloc w (.cells #[.slice A l c, .slice B m d] 88)
 have hs1 := alloc_size w (.cells #[.slice A l c, .slice B m d] 88)
 have k0 : (w.alloc (.cells #[.slice A l c, .slice B m d] 88)).cell? ⟨w.heap.size, 0, none⟩ = some (.slice A l c) := by rw [cells_of_alloc]; rfl
 have k1 : (w.alloc (.cells #[.slice A l c, .slice B m d] 88)).cell? ⟨w.heap.size, 1, none⟩ = some (.slice B m d) := by rw [cells_of_alloc]; rfl
 obtain ⟨w1, hw1⟩ : ∃ w1, w.alloc (.cells #[.slice A l c, .slice B m d] 88) = w1 := ⟨_, rfl⟩
 rw [hw1] at hb1 hs1 k0 k1
 have hXX := four_new w1 (.int .i64 22) (.int .i64 n) (.string s) (.slice (some ⟨g, o, none⟩) len cap) 25
 have hb2 := below_alloc w1 (.cells #[.int .i64 22, .int .i64 n, .string s, .slice (some ⟨g, o, none⟩) len cap] 25)
 have hs2 := alloc_size w1 (.cells #[.int .i64 22, .int .i64 n, .string s, .slice (some ⟨g, o, none⟩) len cap] 25)
 obtain ⟨w2, hw2⟩ : ∃ w2, w1.alloc (.cells #[.int .i64 22, .int .i64 n, .string s, .slice (some ⟨g, o, none⟩) len cap] 25) = w2 := ⟨_, rfl⟩
 rw [hw2] at hXX hb2 hs2
 have k0 := (hb2.cell (p := ⟨w.heap.size, 0, none⟩) (show w.heap.size < w1.heap.size by omega)).trans k0
 have k1 := (hb2.cell (p := ⟨w.heap.size, 1, none⟩) (show w.heap.size < w1.heap.size by omega)).trans k1
 have hB := below_to hb1 hb2
 have HB := Lib.hid hB
 obtain ⟨-, e0, e1, e2, e3⟩ := hXX
 have hgl : g < w.heap.size := World.block_lt_of_cell? w _ t0
 have t0 := (hB.cell (p := ⟨g, o + 2, none⟩) hgl).trans t0
 have gk : w.heap.size < w2.heap.size := by omega
 have ge : w1.heap.size < w2.heap.size := by omega
 have gg : g < w2.heap.size := by omega
 have cK : ∀ w', Below w2.heap.size w2 w' → Calls Tryz.prog 90 #[KE A l c B m d, .string t] w' (Comes w' X) := fun w' hw => cF w' (below_to HB.out hw)
 have cH := fun w => has_any X hX w
 have HV : Hid (∀ R : Bool, bxV (truV R) = .iface 4 (.bool R)) := Lib.hid (fun R => by cases R <;> rfl)
 generalize hasV X = R at *
 clear hB hb1 hb2 hs1 hs2 cF hgl
 go_enter Tryz.func52, Tryz.ntmps52
 go_wp2_with fail
 refine wp_region_held_drew (S := fun w' => Below w2.heap.size w2 w') (by kernel_rfl) ((Below.refl _ _).drew) (fun hHeld => ?_)
 refine held_take (i := 0) (v := ?_) rfl (by kernel_rfl) (by kernel_rfl) (by kernel_rfl) (fun _ _ _ h => h) (by rfl) hHeld ?_ ?_
 rotate_left
 ·intro wz hSz; have q0 := (hSz.cell (p := ⟨w.heap.size, 0, none⟩) gk).trans k0; have q1 := (hSz.cell (p := ⟨w.heap.size, 1, none⟩) gk).trans k1; go_simp; try with_reducible rfl
 simp only [Act.put, List.setIfInBounds_toArray, List.set_cons_zero, List.set_cons_succ]
 refine held_take (i := 1) (v := ?_) rfl (by kernel_rfl) (by kernel_rfl) (by kernel_rfl) (fun _ _ _ h => h) (by rfl) hHeld ?_ ?_
 rotate_left
 ·intro wz hSz; go_simp; try with_reducible rfl
 simp only [Act.put, List.setIfInBounds_toArray, List.set_cons_zero, List.set_cons_succ]
 refine held_take (i := 2) (v := ?_) rfl (by kernel_rfl) (by kernel_rfl) (by kernel_rfl) (fun _ _ _ h => h) (by rfl) hHeld ?_ ?_
 rotate_left
 ·intro wz hSz; have q0 := (hSz.cell (p := ⟨w1.heap.size, 3, none⟩) ge).trans e3; go_simp; try with_reducible rfl
 simp only [Act.put, List.setIfInBounds_toArray, List.set_cons_zero, List.set_cons_succ]
 refine held_take (i := 3) (v := ?_) rfl (by kernel_rfl) (by kernel_rfl) (by kernel_rfl) (fun _ _ _ h => h) (by rfl) hHeld ?_ ?_
 rotate_left
 ·intro wz hSz; go_simp; try with_reducible rfl
 simp only [Act.put, List.setIfInBounds_toArray, List.set_cons_zero, List.set_cons_succ]
 refine held_take (i := 4) (v := ?_) rfl (by kernel_rfl) (by kernel_rfl) (by kernel_rfl) (fun _ _ _ h => h) (by rfl) hHeld ?_ ?_
 rotate_left
 ·intro wz hSz; go_simp; try with_reducible rfl
 simp only [Act.put, List.setIfInBounds_toArray, List.set_cons_zero, List.set_cons_succ]
 refine held_take (i := 5) (v := ?_) rfl (by kernel_rfl) (by kernel_rfl) (by kernel_rfl) (fun _ _ _ h => h) (by rfl) hHeld ?_ ?_
 rotate_left
 ·intro wz hSz; have q0 := (hSz.cell (p := ⟨g, o + 2, none⟩) gg).trans t0; go_simp; try with_reducible rfl
 simp only [Act.put, List.setIfInBounds_toArray, List.set_cons_zero, List.set_cons_succ]
 refine held_call (i := 6) (by kernel_rfl) rfl (by rfl) (by go_simp; try with_reducible rfl) (cK _ hHeld) ?_
 rintro e wy ⟨rfl, hy⟩
 refine ⟨_, rfl, below_to hHeld hy, ?_⟩
 replace hHeld := below_to hHeld hy
 simp only [Act.put, List.setIfInBounds_toArray, List.set_cons_zero, List.set_cons_succ]
 refine held_call (i := 7) (by kernel_rfl) rfl (by rfl) (by go_simp; try with_reducible rfl) (cH _) ?_
 rintro e wy ⟨rfl, rfl⟩
 refine ⟨_, rfl, hHeld, ?_⟩
 replace hHeld := hHeld
 simp only [Act.put, List.setIfInBounds_toArray, List.set_cons_zero, List.set_cons_succ]
 refine held_take (i := 8) (v := ?_) rfl (by kernel_rfl) (by kernel_rfl) (by kernel_rfl) (fun _ _ _ h => h) (by rfl) hHeld ?_ ?_
 rotate_left
 ·intro wz hSz; go_simp; try with_reducible rfl
 simp only [Act.put, List.setIfInBounds_toArray, List.set_cons_zero, List.set_cons_succ]
 refine held_take (i := 9) (v := ?_) rfl (by kernel_rfl) (by kernel_rfl) (by kernel_rfl) (fun _ _ _ h => h) (by rfl) hHeld ?_ ?_
 rotate_left
 ·intro wz hSz; go_simp; try with_reducible rfl
 simp only [Act.put, List.setIfInBounds_toArray, List.set_cons_zero, List.set_cons_succ]
 refine wpAnyH_done (by kernel_rfl) ?_ _
 have HB5 := Lib.hid (below_to HB.out hHeld)
 go_wp2_with fail
 go_ret
 exact ⟨by rw [HV.out]; rfl, HB5.out⟩
end
end Go.Proofs.YtjmfpgalepahoaaGreatDoor
