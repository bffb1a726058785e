/- Contract of the law's laid: bodies in frames, one behind the other, and where each ends. -/
import Derived.Test.YtpkbjiakjofcnaaFAll
import Derived.Test.YtpkbjiakjofcnaaArgs
import Derived.Laws.IdiomStrings
namespace Go.Proofs.Ytpkbjiakjofcnaa
open Go.RowKit Go.Shelf

/-- The bodies among the first k texts. -/
def okT (s : ByteArray) : Bool := decide (1 ≤ s.size ∧ s.size ≤ 2000)
def kept (S : List ByteArray) (k : Nat) : List (List UInt8) := ((S.take k).filter okT).map (fun s => s.data.toList)
theorem kept_zero (S : List ByteArray) : kept S 0 = [] := rfl
theorem kept_succ {S : List ByteArray} {k : Nat} (h : k < S.length) : kept S (k + 1) = kept S k ++ if okT S[k] then [S[k].data.toList] else [] := by
  unfold kept
  rw [List.take_succ_eq_append_getElem h, List.filter_append, List.map_append]
  congr 1
  by_cases ho : okT S[k]
  · simp [ho]
  · simp [ho]
theorem okT_okF {s : ByteArray} (h : okT s = true) : okF s.data.toList := by
  unfold okT at h
  have h2 := of_decide_eq_true h
  have hs : s.size = s.data.toList.length := by simp
  exact ⟨by omega, by omega⟩
theorem kept_ok (S : List ByteArray) (k : Nat) : ∀ b ∈ kept S k, okF b := by
  intro b hb
  unfold kept at hb
  obtain ⟨s, hs, rfl⟩ := List.mem_map.1 hb
  exact okT_okF (List.mem_filter.1 hs).2
theorem kept_len (S : List ByteArray) (k : Nat) : (kept S k).length ≤ k := by
  unfold kept
  rw [List.length_map]
  have h1 := List.length_filter_le okT (S.take k)
  have h2 := List.length_take_le k S
  omega
theorem kept_small (S : List ByteArray) : ∀ k, (flat (kept S k)).length ≤ 2100 * k
  | 0 => by rw [kept_zero]; exact Nat.le_refl _
  | k + 1 => by
    have ih := kept_small S k
    by_cases h : k < S.length
    · rw [kept_succ h, flat_append, List.length_append]
      by_cases ho : okT S[k]
      · rw [if_pos ho, flat_one, putF_len]
        have h2 := of_decide_eq_true ho
        have hs : S[k].size = S[k].data.toList.length := by simp
        have h4 := putI_ten (v := (S[k].data.toList.length : Int)) (by omega) (by omega)
        omega
      · rw [if_neg ho]
        simp only [flat_nil, List.length_nil]
        omega
    · have e : kept S (k + 1) = kept S k := by unfold kept; rw [List.take_of_length_le (by omega), List.take_of_length_le (by omega)]
      rw [e]; omega

/-- A text as bytes, in new memory. -/
theorem bytes_text (w : World) (s : ByteArray) : ∃ (C : Array Value) (z : Nat × Nat) (cap : Nat), (convert 9 22 (.string s)).run Try.prog w = .ok (.slice (some ⟨w.heap.size, 0, none⟩) s.size cap) (w.alloc (.cells C 5 z)).drew ∧ Bs (w.alloc (.cells C 5 z)).drew (some ⟨w.heap.size, 0, none⟩) s.data.toList := by
  refine ⟨_, _, _, run_bytes_of_string w _ _ _ s Try.underlying9 Try.underlying22 Try.underlying5, fun _ => ⟨_, 0, rfl, fun j hj => ?_⟩⟩
  have hj2 : j < s.data.size := by simpa using hj
  rw [Nat.zero_add]
  show (w.drew.alloc _).cell? ⟨w.drew.heap.size, j, none⟩ = _
  rw [cell_of_row _ _ j _ _ _ (heap_alloc_new w.drew _), bytesRow_at s _ j hj2, List.getD_eq_getElem?_getD, List.getElem?_eq_getElem hj]
  simp

/-- Where each frame ends. -/
def endsV (bs : List (List UInt8)) : List Value := (List.range bs.length).map (fun i => .int .i64 (pos bs (i + 1) : Int))
theorem pos_app {bs : List (List UInt8)} {i : Nat} (h : i ≤ bs.length) (b : List UInt8) : pos (bs ++ [b]) i = pos bs i := by
  unfold pos; rw [List.take_append_of_le_length h]
theorem endsV_snoc (bs : List (List UInt8)) (b : List UInt8) : endsV (bs ++ [b]) = endsV bs ++ [.int .i64 ((flat (bs ++ [b])).length : Int)] := by
  unfold endsV
  rw [List.length_append, List.length_cons, List.length_nil, List.range_succ, List.map_append]
  congr 1
  · apply List.map_congr_left
    intro i hi
    rw [pos_app (by have := List.mem_range.1 hi; omega)]
  · simp only [List.map_cons, List.map_nil]
    have h := pos_all (bs ++ [b])
    rw [List.length_append] at h
    rw [← h]
    rfl
def LaidRel (w : World) (bs : List (List UInt8)) (b e : Value) (wr : World) : Prop :=
  (∃ Ab cb, b = .slice Ab (flat bs).length cb ∧ Bs wr Ab (flat bs) ∧ (Ab = none → cb = 0) ∧ (flat bs).length ≤ cb) ∧ wr.ownsRow w.heap.size 3 1 e bs.length (endsV bs) ∧ Below w.heap.size w wr
def LaidEnd (w : World) (bs : List (List UInt8)) (e : Ending) (w' : World) : Prop := ∃ b v, e = .returned (.tuple #[b, v, .bool true]) ∧ LaidRel w bs b v w'
theorem kept_end (S : List ByteArray) {k : Nat} (h : k = 20 ∨ (k ≤ 20 ∧ k = S.length)) : kept S k = kept S 20 := by
  rcases h with rfl | ⟨h, rfl⟩
  · rfl
  · unfold kept; rw [List.take_of_length_le (Nat.le_refl _), List.take_of_length_le h]
theorem txt_at {w : World} {A : Option Addr} {S : List ByteArray} (h : Ts w A S) {k : Nat} (hk : k < S.length) : ∃ b off, A = some ⟨b, off, none⟩ ∧ b < w.heap.size ∧ w.cell? ⟨b, off + k, none⟩ = some (.string S[k]) := by
  obtain ⟨b, off, e, hc⟩ := h (by omega)
  have h2 := hc k hk
  have e2 : S.getD k ByteArray.empty = S[k] := by rw [List.getD_eq_getElem?_getD, List.getElem?_eq_getElem hk]; rfl
  rw [e2] at h2
  exact ⟨b, off, e, World.block_lt_of_cell? w ⟨b, off + k, none⟩ h2, h2⟩

theorem own_next {B : Nat} {w w' : World} {e n : Nat} {v : Value} {xs : List Value} (h : w.ownsRow B e 1 v n xs) (hb : Below w.heap.size w w') : w'.ownsRow B e 1 v n xs := h.kept (grown_none hb) (Classical.em _)
theorem laid_step {w w1 w2 w3 : World} {bs : List (List UInt8)} {b : List UInt8} {A2 : Option Addr} {cap2 N : Nat} {e e' : Value} {tmp : Obj} (hown : w1.ownsRow w.heap.size 3 1 e bs.length (endsV bs)) (hbl : Below w.heap.size w w1) (hb2 : Below w1.heap.size w1 w2)
    (ho2 : w2.ownsRow N 5 1 (.slice A2 (flat (bs ++ [b])).length cap2) (flat (bs ++ [b])).length (Lib.byteCells (flat (bs ++ [b]))))
    (ho3 : w3.ownsRow w.heap.size 3 1 e' (bs.length + 1) (endsV bs ++ [.int .i64 ((flat (bs ++ [b])).length : Int)])) (hg : (w2.alloc tmp).grownBy w3 e.ownBlock) :
    LaidRel w (bs ++ [b]) (.slice A2 (flat (bs ++ [b])).length cap2) e' w3 := by
  have hown2 := own_next hown hb2
  have hs2 : w.heap.size ≤ w2.heap.size := Nat.le_trans hbl.size hb2.size
  have h4 := (ho2.alloc tmp).kept hg (rows_apart (ho2.alloc tmp) (hown2.alloc tmp) (by decide))
  obtain ⟨A4, cap4, e4, hB4⟩ := bs_own h4
  injection e4 with e5 _ e6
  subst e5
  subst e6
  refine ⟨⟨A2, cap2, rfl, hB4, ?_, own_cap ho2⟩, ?_, ?_⟩
  · rintro rfl
    rcases ho2.2 with ⟨h, _⟩ | ⟨g, c', cur, h, _⟩
    · injection h
    · injection h with h; cases h
  · rw [endsV_snoc, List.length_append]
    exact ho3
  · exact ((hbl.trans (hb2.mono hbl.size)).alloc hs2 tmp).trans (below_own (hown2.alloc tmp) hg (by simp; omega))

set_option maxRecDepth 100000 in
set_option maxHeartbeats 4000000 in
theorem laid_any (A : Option Addr) (S : List ByteArray) (ca : Nat) (w : World) (hs : S.length ≤ 9223372036854775807) (hT : Ts w A S) :
    Calls Try.prog 20 #[.slice A S.length ca] w (LaidEnd w (kept S 20)) := by
  obtain ⟨i1, hi1, hz10, hz11, hz12⟩ := info_parts (show (Try.prog.info? 3).map (fun i => (i.zero, i.size, i.bytes)) = some (some (.int .i64 0), 1, 8) by kernel_rfl)
  go_enter Try.func20, Try.ntmps20
  go_wp2_with fail
  go_loopw [5, 6, 7] (fun b e i wr => ∃ k : Nat, k ≤ 20 ∧ k ≤ S.length ∧ i = .int .i64 k ∧ LaidRel w (kept S k) b e wr) (fun _ _ i _ => 20 - (intOf i).toNat)
  case atStart => exact ⟨0, by omega, by omega, rfl, ⟨none, 0, rfl, Bs.nil _ _, fun _ => rfl, Nat.le_refl _⟩, World.ownsRow_nil _ _ _ _, Below.refl _ _⟩
  case round =>
    obtain ⟨k, hk, hkS, rfl, hrel⟩ := hrel
    by_cases hlt : k < S.length
    · by_cases hlt2 : k < 20
      · obtain ⟨ob, off, rfl, hob, hcell⟩ := txt_at hT hlt
        obtain ⟨⟨Ab, cb, rfl, hB, hn, hc⟩, hown, hbl⟩ := hrel
        have hcw : wr.cell? ⟨ob, off + k, none⟩ = some (.string S[k]) := (hbl.cell (p := ⟨ob, off + k, none⟩) hob).trans hcell
        have hsucc := kept_succ hlt
        have hsm := kept_small S k
        obtain ⟨bs, hbs⟩ : ∃ bs, kept S k = bs := ⟨_, rfl⟩
        rw [hbs] at hB hc hown hsucc hsm ⊢
        obtain ⟨s, hsk⟩ : ∃ s, S[k] = s := ⟨_, rfl⟩
        rw [hsk] at hcw hsucc
        by_cases ho : okT s = true
        · have hok := okT_okF ho
          have hsb := of_decide_eq_true (show decide (1 ≤ s.size ∧ s.size ≤ 2000) = true from ho)
          rw [if_pos ho] at hsucc
          obtain ⟨C, z, cap, hconv, hBs⟩ := bytes_text wr s
          have hb0 : Below wr.heap.size wr (wr.alloc (.cells C 5 z)).drew := ((Below.refl _ wr).alloc (Nat.le_refl _) _).drew
          have hls : s.data.toList.length = s.size := by simp
          have cp := put_yes Ab (some ⟨wr.heap.size, 0, none⟩) (flat bs) s.data.toList cb cap _ (by omega) hok (hB.below hb0) hBs
          have hfl : flat bs ++ putF s.data.toList = flat (bs ++ [s.data.toList]) := by rw [flat_append, flat_one]
          rw [hfl, hls] at cp
          have hXl : (flat (bs ++ [s.data.toList])).length = (flat bs).length + (putF s.data.toList).length := by rw [flat_append, flat_one, List.length_append]
          have hp5 := putF_pos s.data.toList
          have hp7 := putF_len s.data.toList
          have hp8 := putI_ten (v := (s.data.toList.length : Int)) (by omega) (by omega)
          have hxm : (flat (bs ++ [s.data.toList])).length ≤ 60000 := by omega
          have hbn : bs.length ≤ 20 := by rw [← hbs]; have := kept_len S k; omega
          have HOWN := Lib.hid hown
          have HBL := Lib.hid hbl
          have HSUC := Lib.hid hsucc
          obtain ⟨nx, hnx⟩ : ∃ nx, (flat (bs ++ [s.data.toList])).length = nx := ⟨_, rfl⟩
          have hnlt : (flat bs).length < nx := by omega
          have hnx2 : nx ≤ 60000 := by omega
          have hs0 := hbl.size
          have HNX := Lib.hid hnx
          clear hB hn hc hown hbl hsucc hbs hsk hT hcell ho hok hBs hls hfl hXl hp5 hp7 hp8 hxm hnx
          obtain ⟨nb, hnb⟩ : ∃ nb, (flat bs).length = nb := ⟨_, rfl⟩
          rw [hnb] at cp hnlt hsm ⊢
          clear hnb
          have hz1 : ¬ (s.size : Int) < 1 := by omega
          have hz2 : ¬ (2000 : Int) < (s.size : Int) := by omega
          clear hsb
          go_wp2_with fail
          (with_reducible refine cp.mono ?_)
          rintro e w2 ⟨A2, cap2, rfl, hB2, _, ho2, hb2⟩
          have HO2 := Lib.hid ho2
          have HB2 := Lib.hid (hb0.trans (hb2.mono hb0.size))
          have hs2 : w.heap.size ≤ w2.heap.size := Nat.le_trans hs0 HB2.out.size
          rw [HNX.out]
          clear cp hB2 ho2 hb2 hb0 hconv
          go_wp2_with (at_builtin; go_loud (refine wpList_append_own _ rfl (.tmp 54) (.tmp 57) _ rfl w.heap.size 3 i1 _ 1 8 Try.underlying38 hi1 hz10 hz11 hz12 rfl (by decide) _ bs.length (endsV bs) rfl ((own_next HOWN.out HB2.out).alloc _) ⟨w2.heap.size, 0, none⟩ 1 1 [.int .i64 (nx : Int)] rfl rfl (cell_one_new _ _ _) (by simp [Value.oneCell']) (by unfold maxLen; omega) (by omega) (by simp; omega) ?_); intro e' w3 ho3 hg3 _; have HFIN := Lib.hid (laid_step HOWN.out HBL.out HB2.out HO2.out (by rw [HNX.out]; exact ho3) hg3); clear ho3 hg3)
          go_roundw
          case rel => exact ⟨k + 1, by omega, by omega, by go_num, by rw [HSUC.out]; rw [← HNX.out]; exact HFIN.out⟩
          case measure => simp [intOf]; omega
        · have hsz : s.size < 1 ∨ (1 ≤ s.size ∧ 2000 < s.size) := by
            have h2 : ¬ (1 ≤ s.size ∧ s.size ≤ 2000) := fun h => ho (by unfold okT; simpa using h)
            omega
          rw [if_neg ho, List.append_nil] at hsucc
          have HREL := Lib.hid (show LaidRel w (kept S (k + 1)) (.slice Ab (flat bs).length cb) u6 wr by rw [hsucc]; exact ⟨⟨Ab, cb, rfl, hB, hn, hc⟩, hown, hbl⟩)
          clear hB hn hc hown hbl hsucc hbs hsk hT hcell ho
          generalize (flat bs).length = nb at *
          rcases hsz with hz | ⟨hz, hz2⟩
          all_goals
            go_wp2_with fail
            go_roundw
            case rel => exact ⟨k + 1, by omega, by omega, by go_num, HREL.out⟩
            case measure => simp [intOf]; omega
      · have HREL := Lib.hid (show LaidRel w (kept S 20) _ _ wr by rw [← kept_end S (k := k) (.inl (by omega))]; exact hrel)
        clear hrel hT
        obtain rfl : k = 20 := by omega
        go_wp2_with fail
        exact bodyPost_ret (v := .tuple #[_, _, .bool true]) (by simp [results, Try.results20, go_sem]) rfl ⟨_, _, rfl, HREL.out⟩
    · have HREL := Lib.hid (show LaidRel w (kept S 20) _ _ wr by rw [← kept_end S (k := k) (.inr ⟨hk, by omega⟩)]; exact hrel)
      clear hrel hT
      obtain rfl : k = S.length := by omega
      go_wp2_with fail
      exact bodyPost_ret (v := .tuple #[_, _, .bool true]) (by simp [results, Try.results20, go_sem]) rfl ⟨_, _, rfl, HREL.out⟩
end Go.Proofs.Ytpkbjiakjofcnaa
