/- A table is loaded. -/
import Derived.Test.YtindkpfmflcibaaGreatDoorMSsR
namespace Go.Proofs.YtindkpfmflcibaaGreatDoor
open Go.RowKit Go.Maps Go.Sort Go.Shelf
set_option linter.unusedSimpArgs false

set_option maxHeartbeats 2000000 in
set_option maxRecDepth 100000 in
theorem stload_any (N g T r most : Nat) (L0 L : List Se) (w : World) (ht : Tb most L) (hK : Tab w T r most L0) (h : Rd N w g (tabB L, false)) (hgT : g ≠ T) (hN : T < N) (wB : World) (hT : Tabs wB) (hTB : Below wB.heap.size wB w) (hg : wB.heap.size ≤ g) :
    Calls Tryz.prog 22 #[.pointer (some ⟨T, 0, none⟩), .pointer (some ⟨g, 0, none⟩)] w fun e w' => ∃ m, e = .returned (.bool true) ∧ w.heap.size ≤ m ∧ Tab w' T m most L ∧ Rd N w' g ([], false) ∧ But2 g T w w' := by
  have cR := stread_any N g most L w ht h wB hT hTB hg
  have hc0 := hK.c0
  have HK := Lib.hid hK
  clear h hT hTB hg hK
  go_enter Tryz.func22, Tryz.ntmps22
  go_wp2_with fail
  refine cR.mono ?_
  rintro e w1 ⟨m, rfl, hm, hM, hR, hO⟩
  have k0 : w1.cell? ⟨T, 0, none⟩ = some (.int .i64 (most : Int)) := (World.cell?_of_block (w := w) (a := ⟨T, 0, none⟩) (hO.block T HK.out.lt hgT.symm)).trans HK.out.c0
  have k1 : w1.cell? ⟨T, 1, none⟩ = some (.map (some r)) := (World.cell?_of_block (w := w) (a := ⟨T, 1, none⟩) (hO.block T HK.out.lt hgT.symm)).trans HK.out.c1
  have kf : ∀ i, w1.frozen? ⟨T, i, none⟩ = false := fun i => (World.frozen?_of_block (w := w) (a := ⟨T, i, none⟩) (hO.block T HK.out.lt hgT.symm)).trans (HK.out.fz i)
  have f1 := kf 1
  have HR := Lib.hid hR
  have HO := Lib.hid hO
  have HM := Lib.hid hM
  clear cR hR hO hM hc0
  go_wp2_with fail
  have o2 : Only T w1 (w1.setCell ⟨T, 1, none⟩ (.map (some m))) := (Only.refl T w1).setCell 1 _
  have q0 : (w1.setCell ⟨T, 1, none⟩ (.map (some m))).cell? ⟨T, 0, none⟩ = some (.int .i64 (most : Int)) := by go_simp
  have q1 : (w1.setCell ⟨T, 1, none⟩ (.map (some m))).cell? ⟨T, 1, none⟩ = some (.map (some m)) := by go_simp
  have qf : ∀ i, (w1.setCell ⟨T, 1, none⟩ (.map (some m))).frozen? ⟨T, i, none⟩ = false := fun i => by
    have := kf i
    simpa [go_sem] using this
  have hTm : m ≠ T := by have := HK.out.lt; omega
  generalize (w1.setCell ⟨T, 1, none⟩ (.map (some m))) = w2 at *
  have hsz := HO.out.size
  have HT : Tab w2 T m most L := ⟨by have := HK.out.lt; rw [o2.size]; omega, hTm, q0, q1, qf, HM.out.same (o2.block m hTm), ht⟩
  have HR2 : Rd N w2 g ([], false) := HR.out.kept fun k hk _ => o2.block k (by omega)
  have HB : But2 g T w w2 := ⟨o2.os.trans HO.out.os, o2.tape.trans HO.out.tape, o2.output.trans HO.out.output, Nat.le_trans hsz (Nat.le_of_eq o2.size.symm), fun k hk h1 h2 => (o2.block k h2).trans (HO.out.block k hk h1)⟩
  have HF := Lib.hid (And.intro HT (And.intro HR2 HB))
  clear o2 q0 q1 qf HT HR2 HB k0 k1 kf f1 hsz
  go_ret
  exact ⟨m, rfl, hm, HF.out.1, HF.out.2.1, HF.out.2.2⟩
end Go.Proofs.YtindkpfmflcibaaGreatDoor
