/- The program counts the open cells of each row of a mask. Condition: a mask. -/
import Derived.Test.YtjmfffgddmnkmabMk
import Derived.Laws.MakeOwn
import Derived.Laws.OwnMore
namespace Go.Proofs.Ytjmfffgddmnkmab
open Go Go.RowKit

/-- how many of the cells p, p + 1, .. p + x - 1 are open -/
def cnt (D : Array Value) (p : Nat) : Nat → Nat
  | 0 => 0
  | x + 1 => cnt D p x + (if open_ D (p + x) = true then 1 else 0)
theorem cnt_le (D : Array Value) (p x : Nat) : cnt D p x ≤ x := by
  induction x with
  | zero => exact Nat.le_refl _
  | succ x ih => unfold cnt; split <;> omega
/-- the counts when the rows before y are done, and x cells of the row y -/
def cntRow (s : Nat) (D : Array Value) (y x : Nat) : Array Value := Array.ofFn (n := s) fun i => .int .i64 (if i.val < y then cnt D (s * i.val) s else if i.val = y then cnt D (s * y) x else 0 : Nat)
theorem cntRow_size (s : Nat) (D : Array Value) (y x : Nat) : (cntRow s D y x).size = s := by simp [cntRow]
theorem cntRow_get (s : Nat) (D : Array Value) (y x i : Nat) (hi : i < s) : (cntRow s D y x)[i]? = some (.int .i64 (if i < y then cnt D (s * i) s else if i = y then cnt D (s * y) x else 0 : Nat)) := by
  simp [cntRow, hi]
theorem cntRow_zero (s : Nat) (D : Array Value) : cntRow s D 0 0 = Array.replicate s (.int .i64 0) := by
  apply Array.ext_getElem?
  intro i
  by_cases hi : i < s
  · rw [cntRow_get s D 0 0 i hi]
    simp [hi, cnt]
  · rw [Array.getElem?_eq_none (by rw [cntRow_size]; omega), Array.getElem?_eq_none (by simp; omega)]
theorem cntRow_next (s : Nat) (D : Array Value) (y : Nat) : cntRow s D y s = cntRow s D (y + 1) 0 := by
  apply Array.ext_getElem?
  intro i
  by_cases hi : i < s
  · rw [cntRow_get s D y s i hi, cntRow_get s D (y + 1) 0 i hi]
    by_cases h1 : i < y
    · rw [if_pos h1, if_pos (by omega)]
    · by_cases h2 : i = y
      · subst h2
        rw [if_neg h1, if_pos rfl, if_pos (by omega)]
      · rw [if_neg h1, if_neg h2, if_neg (by omega)]
        by_cases h3 : i = y + 1
        · rw [if_pos h3]; rfl
        · rw [if_neg h3]
  · rw [Array.getElem?_eq_none (by rw [cntRow_size]; omega), Array.getElem?_eq_none (by rw [cntRow_size]; omega)]
theorem cntRow_set (s : Nat) (D : Array Value) (y x : Nat) (hy : y < s) (h : open_ D (s * y + x) = true) : (cntRow s D y x).setIfInBounds y (.int .i64 ((cnt D (s * y) x : Nat) + 1 : Int)) = cntRow s D y (x + 1) := by
  apply Array.ext_getElem?
  intro i
  rw [Array.getElem?_setIfInBounds, cntRow_size]
  by_cases hi : i < s
  · rw [cntRow_get s D y x i hi, cntRow_get s D y (x + 1) i hi]
    by_cases h2 : y = i
    · subst h2
      rw [if_pos rfl, if_pos hy, if_neg (by omega), if_pos rfl, cnt, if_pos h]
      rfl
    · rw [if_neg h2]
      by_cases h1 : i < y
      · rw [if_pos h1, if_pos h1]
      · rw [if_neg h1, if_neg h1, if_neg (by omega), if_neg (by omega)]
  · rw [if_neg (by omega), Array.getElem?_eq_none (by rw [cntRow_size]; omega), Array.getElem?_eq_none (by rw [cntRow_size]; omega)]
theorem cntRow_skip (s : Nat) (D : Array Value) (y x : Nat) (h : open_ D (s * y + x) = false) : cntRow s D y x = cntRow s D y (x + 1) := by
  apply Array.ext_getElem?
  intro i
  by_cases hi : i < s
  · rw [cntRow_get s D y x i hi, cntRow_get s D y (x + 1) i hi, show cnt D (s * y) (x + 1) = cnt D (s * y) x by rw [cnt, h]; rfl]
  · rw [Array.getElem?_eq_none (by rw [cntRow_size]; omega), Array.getElem?_eq_none (by rw [cntRow_size]; omega)]

set_option maxRecDepth 100000 in
theorem madeRow (s : Nat) (hs : s ≤ 8) (v : World) : (Instr.makeSlice 36 (.int .i64 s) (.int .i64 s)).run Try.prog v = .ok (.slice (some ⟨v.heap.size, 0, none⟩) s s) (v.alloc (.cells (Array.replicate s (.int .i64 0)) 2)) := by
  have e : (Try.prog.info? 2).map (fun i => (i.zero, i.size, i.bytes)) = some (some (.int .i64 0), 1, 8) := by kernel_rfl
  obtain ⟨i, hi, e2⟩ := Option.map_eq_some_iff.1 e
  have hz : i.zero = some (.int .i64 0) := congrArg (·.1) e2
  have hs1 : i.size = 1 := congrArg (·.2.1) e2
  have hb : i.bytes = 8 := congrArg (·.2.2) e2
  have h := run_makeSlice (P := Try.prog) v 36 2 i (.int .i64 0) Try.underlying36 hi hz .i64 .i64 s s (by omega) (by omega) (by rw [hs1, Int.toNat_natCast]; omega) (by rw [hb]; omega) (by omega)
  rw [h, Int.toNat_natCast, hs1, Nat.mul_one]
  congr 2
  refine congrArg (fun z => Obj.cells z 2) ?_
  apply Array.ext'
  rw [Array.toList_replicate]
  exact toList_madeCells_one _ _

set_option maxRecDepth 100000 in
set_option maxHeartbeats 1000000 in
theorem implOpen_no (s : Int) (D : Array Value) (hD : Wav s D) (h1 : isMsk s D = false) (w : World) : Calls Try.prog 21 #[.agg D] w fun e w' => e = .returned (.tuple #[.slice none 0 0, .int .i64 1]) ∧ Below w.heap.size w w' := by
  have HDI : Hid ((Try.prog.info? 30).map (·.size) = some D.size) := Lib.hid (by rw [hD.1]; exact (zero_of_info info37').2)
  have HMD := Lib.hid (implIsMask_any s D hD)
  rw [h1] at HMD
  clear hD
  go_enter Try.func21, Try.ntmps21
  go_upto_region 1 with fail
  have D0 := Lib.hid (h1_0 w (.cells D 30))
  have B0 : Hid (Below w.heap.size w (w.alloc (.cells D 30))) := Lib.hid ((Below.refl _ _).alloc (Nat.le_refl _) _)
  generalize w.alloc (.cells D 30) = v at *
  go_wp2_with (first | (refine wpList_load_row rfl 30 (.tmp 1) rfl w.heap.size rfl 30 D (0, 0) _ D0.out Try.underlying30 rfl HDI.out ?_) | (go_at_call 19; fail))
  refine (HMD.out _).mono ?_
  rintro e w1 ⟨rfl, b1⟩
  have B1 : Hid (Below w.heap.size w w1) := Lib.hid (B0.out.trans (b1.mono B0.out.size))
  clear b1 HMD D0 B0
  go_wp2_with fail
  go_ret2
  exact ⟨rfl, B1.out⟩

set_option maxRecDepth 100000 in
set_option maxHeartbeats 2000000 in
theorem implOpen_yes (s : Nat) (hs : side s = true) (D : Array Value) (hD : Wav s D) (h1 : isMsk s D = true) (w : World) : Calls Try.prog 21 #[.agg D] w fun e w' => ∃ b, e = .returned (.tuple #[.slice (some ⟨b, 0, none⟩) s s, .int .i64 0]) ∧ Below w.heap.size w w' ∧ ∀ i, i < s → w'.cell? ⟨b, 0 + i, none⟩ = some (.int .i64 (cnt D (s * i) s : Nat)) := by
  have HDI : Hid ((Try.prog.info? 30).map (·.size) = some D.size) := Lib.hid (by rw [hD.1]; exact (zero_of_info info37').2)
  have HMD := Lib.hid (implIsMask_any s D hD)
  rw [h1] at HMD
  have HO : Hid (∀ (y x : Nat), y < s → x < s → ∀ w, Calls Try.prog 76 #[.agg D, .int .i64 y, .int .i64 x] w fun e w' => e = .returned (.bool (open_ D (s * y + x))) ∧ Below w.heap.size w w') := Lib.hid fun y x hy hx w => openingAt_any s hs D hD y x hy hx w
  have hs8 : 1 ≤ s ∧ s ≤ 8 := by rcases side_nat s hs with rfl | rfl | rfl | rfl <;> omega
  have h0 := Lib.hid hD.2.1
  have hM : ∀ v, (Instr.makeSlice 36 (.int .i64 s) (.int .i64 s)).run Try.prog v = .ok (.slice (some ⟨v.heap.size, 0, none⟩) s s) (v.alloc (.cells (cntRow s D 0 0) 2)) := fun v => by
    have h := madeRow s hs8.2 v
    rw [cntRow_zero]
    exact h
  have HPL : Hid (∀ y x, y < s → x < s → s * y + x < 64 ∧ s * y ≤ 56) := Lib.hid fun y x hy hx => place_lt s y x hs hy hx
  clear hD h1 hs
  go_enter Try.func21, Try.ntmps21
  go_upto_region 1 with fail
  have D0 := Lib.hid (h1_0 w (.cells D 30))
  have B0 : Hid (Below w.heap.size w (w.alloc (.cells D 30))) := Lib.hid ((Below.refl _ _).alloc (Nat.le_refl _) _)
  generalize w.alloc (.cells D 30) = v at *
  go_wp2_with (first | (refine wpList_load_row rfl 30 (.tmp 1) rfl w.heap.size rfl 30 D (0, 0) _ D0.out Try.underlying30 rfl HDI.out ?_) | (go_at_call 19; fail))
  refine (HMD.out _).mono ?_
  rintro e w1 ⟨rfl, b1⟩
  have D1 : Hid (w1.heap[w.heap.size]? = some (.cells D 30 (0, 0))) := Lib.hid (by rw [b1.block _ (Array.getElem?_eq_some_iff.1 D0.out).1]; exact D0.out)
  have B1 : Hid (Below w.heap.size w w1) := Lib.hid (B0.out.trans (b1.mono B0.out.size))
  have c0 : w1.cell? ⟨w.heap.size, 0, none⟩ = some (.int .i64 s) := by rw [cell_of_row _ _ _ _ _ _ D1.out]; exact h0.out
  clear b1 HMD D0 B0
  go_wp2_with fail
  have R1 : Hid ((w1.alloc (.cells (cntRow s D 0 0) 2)).heap[w1.heap.size]? = some (.cells (cntRow s D 0 0) 2 (0, 0))) := Lib.hid (h1_0 _ _)
  have D2 : Hid ((w1.alloc (.cells (cntRow s D 0 0) 2)).heap[w.heap.size]? = some (.cells D 30 (0, 0))) := Lib.hid (by rw [heap_alloc_old _ _ (Array.getElem?_eq_some_iff.1 D1.out).1]; exact D1.out)
  have B2 : Hid (Below w.heap.size w (w1.alloc (.cells (cntRow s D 0 0) 2))) := Lib.hid (B1.out.alloc B1.out.size _)
  have hgb : w.heap.size ≠ w1.heap.size := by have := (Array.getElem?_eq_some_iff.1 D1.out).1; omega
  have hge : w.heap.size ≤ w1.heap.size := B1.out.size
  generalize w1.alloc (.cells (cntRow s D 0 0) 2) = v1 at *
  generalize w1.heap.size = g at *
  clear c0 D1 B1
  go_loopw [15] (fun i wr => ∃ y : Nat, y ≤ s ∧ i = .int .i64 y ∧ Hid (wr.heap[g]? = some (.cells (cntRow s D y 0) 2 (0, 0))) ∧ Hid (wr.heap[w.heap.size]? = some (.cells D 30 (0, 0))) ∧ Hid (Below w.heap.size w wr)) (fun i _ => s - (intOf i).toNat)
  case atStart => exact ⟨0, by omega, rfl, R1, D2, B2⟩
  case round =>
    obtain ⟨y, hy, rfl, R, D3, B⟩ := hrel
    by_cases hlt : y < s
    · have hdy : decide ((y : Int) < (s : Int)) = true := by simp; omega
      have c0 : wr.cell? ⟨w.heap.size, 0, none⟩ = some (.int .i64 s) := by rw [cell_of_row _ _ _ _ _ _ D3.out]; exact h0.out
      go_wp2
      go_loopw [20] (fun i wr => ∃ x : Nat, x ≤ s ∧ i = .int .i64 x ∧ Hid (wr.heap[g]? = some (.cells (cntRow s D y x) 2 (0, 0))) ∧ Hid (wr.heap[w.heap.size]? = some (.cells D 30 (0, 0))) ∧ Hid (Below w.heap.size w wr)) (fun i _ => s - (intOf i).toNat)
      case atStart => exact ⟨0, by omega, rfl, R, D3, B⟩
      case round =>
        obtain ⟨x, hx, rfl, R, D3, B⟩ := hrel
        by_cases hlt2 : x < s
        · have hdx : decide ((x : Int) < (s : Int)) = true := by simp; omega
          go_wp2_with (first | (refine wpList_load_row rfl 30 (.tmp 1) rfl w.heap.size rfl 30 D (0, 0) _ D3.out Try.underlying30 rfl HDI.out ?_) | (go_at_call 76; fail))
          refine (HO.out y x hlt hlt2 _).mono ?_
          rintro e w2 ⟨rfl, b2⟩
          have R2 : Hid (w2.heap[g]? = some (.cells (cntRow s D y x) 2 (0, 0))) := Lib.hid (by rw [b2.block _ (Array.getElem?_eq_some_iff.1 R.out).1]; exact R.out)
          have D4 : Hid (w2.heap[w.heap.size]? = some (.cells D 30 (0, 0))) := Lib.hid (by rw [b2.block _ (Array.getElem?_eq_some_iff.1 D3.out).1]; exact D3.out)
          have B4 : Hid (Below w.heap.size w w2) := Lib.hid (B.out.trans (b2.mono B.out.size))
          have cnt8 := cnt_le D (s * y) x
          have hq : (cntRow s D y x)[y]? = some (.int .i64 (cnt D (s * y) x : Nat)) := by rw [cntRow_get s D y x y hlt, if_neg (by omega), if_pos rfl]
          have cc : w2.cell? ⟨g, y, none⟩ = some (.int .i64 (cnt D (s * y) x : Nat)) := by rw [cell_of_row _ _ _ _ _ _ R2.out]; exact hq
          have cf : w2.frozen? ⟨g, y, none⟩ = false := frozen_of_row _ _ _ _ _ R2.out
          clear b2 R D3 B
          cases ho : open_ D (s * y + x)
          · have HN := Lib.hid (cntRow_skip s D y x ho)
            go_wp2
            exact ⟨⟨x + 1, by omega, by go_num, by rw [← HN.out]; exact R2, D4, B4⟩, by simp [intOf]; omega⟩
          · have HN := Lib.hid (cntRow_set s D y x hlt ho)
            have hw1 : IntKind.i64.wrap ((cnt D (s * y) x : Nat) + 1 : Int) = (cnt D (s * y) x : Nat) + 1 := IntWalk.i64_in _ (by omega)
            go_wp2
            exact ⟨⟨x + 1, by omega, by go_num, Lib.hid (by rw [← HN.out]; exact heap_setCell_same _ _ _ _ _ _ R2.out), Lib.hid (by rw [heap_setCell_other _ _ _ _ (by show w.heap.size ≠ g; exact hgb)]; exact D4.out), Lib.hid (B4.out.setCell (by show w.heap.size ≤ g; exact hge) _)⟩, by simp [intOf]; omega⟩
        · obtain rfl : x = s := by omega
          have HN := Lib.hid (cntRow_next x D y)
          go_wp2
          exact ⟨⟨y + 1, by omega, by go_num, by rw [← HN.out]; exact R, D3, B⟩, by simp [intOf]; omega⟩
    · obtain rfl : y = s := by omega
      go_wp2
      go_ret2
      exact ⟨g, rfl, B.out, fun i hi => by rw [Nat.zero_add, cell_of_row _ _ _ _ _ _ R.out, cntRow_get y D y 0 i hi, if_pos hi]⟩
end Go.Proofs.Ytjmfffgddmnkmab
