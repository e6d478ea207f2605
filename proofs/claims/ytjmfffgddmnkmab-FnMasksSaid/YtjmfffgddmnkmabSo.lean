/- The model counts the open cells of each row of a mask. Condition: 64 complex numbers. -/
import Derived.Test.YtjmfffgddmnkmabSm
import Derived.Test.YtjmfffgddmnkmabIOp
import Derived.Deep.CutBlock
import Derived.Deep.DeepCutAuto
namespace Go.Proofs.Ytjmfffgddmnkmab
open Go Go.RowKit

theorem nul_one (x y : Nat) (h : mk x y = true) : nul x y = !one x y := by
  unfold mk at h
  cases hn : nul x y
  · rw [hn, Bool.false_or] at h; rw [h]; rfl
  · cases ho : one x y
    · rfl
    · exfalso
      unfold nul at hn
      unfold one at ho
      rw [Bool.and_eq_true] at hn ho
      obtain ⟨s, h1⟩ := read_zero x hn.1
      have h2 := read_one x ho.1
      rw [h1] at h2
      cases h2
theorem cntRow_at (s : Nat) (D : Array Value) (y x : Nat) (hx : x < s) : cntRow s D y (x + 1) = cntRow s D ((s * y + x + 1) / s) ((s * y + x + 1) % s) := by
  by_cases h : x + 1 < s
  · obtain ⟨e1, e2⟩ := place_at s y (x + 1) h
    rw [show s * y + x + 1 = s * y + (x + 1) by omega, e1, e2]
  · obtain rfl : s = x + 1 := by omega
    obtain ⟨e1, e2⟩ := place_at (x + 1) (y + 1) 0 (by omega)
    rw [show (x + 1) * y + x + 1 = (x + 1) * (y + 1) + 0 by rw [Nat.mul_succ]; omega, e1, e2]
    exact cntRow_next (x + 1) D y

set_option maxRecDepth 100000 in
set_option maxHeartbeats 1000000 in
theorem specOpen_no (s : Int) (D : Array Value) (hD : Wav s D) (h1 : isMsk s D = false) (w : World) : Calls Try.prog 31 #[.agg D] w fun e w' => e = .returned (.tuple #[.slice none 0 0, .int .i64 1]) ∧ Below w.heap.size w w' := by
  have HS37 := Lib.hid (zero_of_info info37').2
  have HDI : Hid ((Try.prog.info? 30).map (·.size) = some D.size) := Lib.hid (by rw [hD.1]; exact HS37.out)
  have HMD := Lib.hid (specMsk_any s D hD)
  rw [h1] at HMD
  clear hD
  go_enter Try.func31, Try.ntmps31
  go_upto_region 1 with fail
  have L0 := Lib.hid (lay1 w D)
  generalize w.alloc (.cells D 30) = v at *
  go_wp2_with (first | (refine wpList_load_row rfl 30 (.tmp 1) rfl w.heap.size rfl 30 D (0, 0) _ (L0.out.at 0 rfl) Try.underlying30 rfl HDI.out ?_) | (go_at_call 75; fail))
  refine (HMD.out _).mono ?_
  rintro e w1 ⟨rfl, b1⟩
  have L1 := Lib.hid (L0.out.below b1)
  clear b1 L0
  go_wp2
  go_ret2
  exact ⟨rfl, L1.out.2⟩

set_option maxRecDepth 100000 in
set_option maxHeartbeats 1000000 in
theorem specOpen_yes (s : Nat) (hs : side s = true) (D : Array Value) (hD : Wav s D) (h1 : isMsk s D = true) (w : World) : Calls Try.prog 31 #[.agg D] w fun e w' => ∃ b, e = .returned (.tuple #[.slice (some ⟨b, 0, none⟩) s s, .int .i64 0]) ∧ Below w.heap.size w w' ∧ ∀ i, i < s → w'.cell? ⟨b, 0 + i, none⟩ = some (.int .i64 (cnt D (s * i) s : Nat)) := by
  have HS37 := Lib.hid (zero_of_info info37').2
  have HDI : Hid ((Try.prog.info? 30).map (·.size) = some D.size) := Lib.hid (by rw [hD.1]; exact HS37.out)
  have HMD := Lib.hid (specMsk_any s D hD)
  rw [h1] at HMD
  have hm : mks D 64 = true := by unfold isMsk at h1; rw [Bool.and_eq_true] at h1; exact h1.1
  have hs8 : 1 ≤ s ∧ s ≤ 8 := by rcases side_nat s hs with rfl | rfl | rfl | rfl <;> omega
  obtain ⟨N, hN, hN64, hNs⟩ := side_sq s hs
  have h0 := Lib.hid hD.2.1
  have hM : ∀ v, (Instr.makeSlice 36 (.int .i64 s) (.int .i64 s)).run Try.prog v = .ok (.slice (some ⟨v.heap.size, 0, none⟩) s s) (v.alloc (.cells (cntRow s D 0 0) 2)) := fun v => by
    have h := madeRow s hs8.2 v
    rw [cntRow_zero]
    exact h
  have HC : Hid (∀ k, k < N → ∃ (a b y x : Nat), D[1 + k]? = some (.complex .f32 a b) ∧ (FloatKind.f32.format.order a 0 == some .eq && FloatKind.f32.format.order b 0 == some .eq) = !open_ D k ∧ y < s ∧ k / s = y ∧ k % s = x ∧ (k : Int).tdiv (s : Int) = (y : Int) ∧ (k : Int) / (s : Int) = (y : Int) ∧ cnt D (s * y) x ≤ 8 ∧
      (open_ D k = false → cntRow s D y x = cntRow s D ((k + 1) / s) ((k + 1) % s)) ∧ (open_ D k = true → (cntRow s D y x).setIfInBounds y (.int .i64 ((cnt D (s * y) x : Nat) + 1 : Int)) = cntRow s D ((k + 1) / s) ((k + 1) % s))) := Lib.hid fun k hk => by
    obtain ⟨a, b, h⟩ := hD.2.2 k (by omega)
    obtain ⟨e1, e2⟩ := at_of D k a b h
    have hmk := mks_at D 64 hm k (by omega)
    rw [e1, e2] at hmk
    have hy : k / s < s := Nat.div_lt_of_lt_mul (by omega)
    have hx : k % s < s := Nat.mod_lt _ (by omega)
    have hk2 : s * (k / s) + k % s = k := Nat.div_add_mod k s
    have hat := cntRow_at s D (k / s) (k % s) hx
    rw [hk2] at hat
    refine ⟨a, b, k / s, k % s, h, ?_, hy, rfl, rfl, by rw [Int.tdiv_eq_ediv_of_nonneg (by omega)]; exact (Int.natCast_ediv k s).symm, (Int.natCast_ediv k s).symm, ?_, fun ho => ?_, fun ho => ?_⟩
    · have := nul_one a b hmk
      unfold open_
      rw [e1, e2, ← this]; rfl
    · have := cnt_le D (s * (k / s)) (k % s); omega
    · rw [← hat]; exact cntRow_skip s D (k / s) (k % s) (by rw [hk2]; exact ho)
    · rw [← hat]; exact cntRow_set s D (k / s) (k % s) hy (by rw [hk2]; exact ho)
  have HQ : Hid (∀ y x, y < s → (cntRow s D y x)[y]? = some (.int .i64 (cnt D (s * y) x : Nat))) := Lib.hid fun y x hy => by rw [cntRow_get s D y x y hy, if_neg (by omega), if_pos rfl]
  have HEND : Hid (N / s = s ∧ N % s = 0) := Lib.hid ⟨by rw [← hNs]; exact Nat.mul_div_cancel _ (by omega), by rw [← hNs]; exact Nat.mul_mod_right _ _⟩
  clear hD h1 hs hm hNs
  go_enter Try.func31, Try.ntmps31
  go_upto_region 1 with fail
  have L0 := Lib.hid (lay1 w D)
  generalize w.alloc (.cells D 30) = v at *
  go_wp2_with (first | (refine wpList_load_row rfl 30 (.tmp 1) rfl w.heap.size rfl 30 D (0, 0) _ (L0.out.at 0 rfl) Try.underlying30 rfl HDI.out ?_) | (go_at_call 75; fail))
  refine (HMD.out _).mono ?_
  rintro e w1 ⟨rfl, b1⟩
  have L1 := Lib.hid (L0.out.below b1)
  clear b1 L0
  have c0 : w1.cell? ⟨w.heap.size, 0, none⟩ = some (.int .i64 s) := by rw [L1.out.cell 0 rfl]; exact h0.out
  go_wp2_with fail
  have R1 : Hid ((w1.alloc (.cells (cntRow s D 0 0) 2)).heap[w1.heap.size]? = some (.cells (cntRow s D (0 / s) (0 % s)) 2 (0, 0))) := Lib.hid (by rw [Nat.zero_div, Nat.zero_mod]; exact h1_0 _ _)
  have L2 := Lib.hid (L1.out.alloc (.cells (cntRow s D 0 0) 2))
  have hgb : w.heap.size ≠ w1.heap.size := by have := (Array.getElem?_eq_some_iff.1 (L1.out.at 0 rfl)).1; omega
  have hge : w.heap.size ≤ w1.heap.size := L1.out.2.size
  generalize w1.alloc (.cells (cntRow s D 0 0) 2) = v1 at *
  generalize w1.heap.size = g at *
  clear c0 L1 hM
  go_loopw [5] (fun i wr => ∃ k : Nat, k ≤ N ∧ i = .int .i64 k ∧ Hid (wr.heap[g]? = some (.cells (cntRow s D (k / s) (k % s)) 2 (0, 0))) ∧ Hid (Lay [(w.heap.size, D)] w wr)) (fun i _ => N - (intOf i).toNat)
  case atStart => exact ⟨0, by omega, rfl, R1, L2⟩
  case round =>
    obtain ⟨k, hk, rfl, R, L⟩ := hrel
    have c0 : wr.cell? ⟨w.heap.size, 0, none⟩ = some (.int .i64 s) := by rw [L.out.cell 0 rfl]; exact h0.out
    by_cases hlt : k < N
    · obtain ⟨a, b, y, x, hz, hnul, hy, ey, ex, hd1, hd2, hc8, hskip, hset⟩ := HC.out k hlt
      have R' := Lib.hid (show wr.heap[g]? = some (.cells (cntRow s D y x) 2 (0, 0)) by rw [← ey, ← ex]; exact R.out)
      have c1 : wr.cell? ⟨w.heap.size, 1 + k, none⟩ = some (.complex .f32 a b) := by rw [L.out.cell 0 rfl]; exact hz
      have cc : wr.cell? ⟨g, y, none⟩ = some (.int .i64 (cnt D (s * y) x : Nat)) := by rw [cell_of_row _ _ _ _ _ _ R'.out]; exact HQ.out y x hy
      have cf : wr.frozen? ⟨g, y, none⟩ = false := frozen_of_row _ _ _ _ _ R'.out
      have hk64 : (k : Int) < 64 := by omega
      clear R ey ex hz
      cases ho : open_ D k
      · have HN := Lib.hid (hskip ho)
        have hn' : (FloatKind.f32.format.order a 0 == some .eq && FloatKind.f32.format.order b 0 == some .eq) = true := by rw [hnul, ho]; rfl
        clear hskip hset hnul ho
        go_wp2
        exact ⟨⟨k + 1, by omega, by go_num, by rw [← HN.out]; exact R', L⟩, by simp [intOf]; omega⟩
      · have HN := Lib.hid (hset ho)
        have hn' : (FloatKind.f32.format.order a 0 == some .eq && FloatKind.f32.format.order b 0 == some .eq) = false := by rw [hnul, ho]; rfl
        have hw1 : IntKind.i64.wrap ((cnt D (s * y) x : Nat) + 1 : Int) = (cnt D (s * y) x : Nat) + 1 := IntWalk.i64_in _ (by omega)
        have hwy : IntKind.i64.wrap (y : Int) = y := IntWalk.i64_in _ (by omega)
        clear hskip hset hnul ho
        go_wp2
        exact ⟨⟨k + 1, by omega, by go_num, Lib.hid (by rw [← HN.out]; exact heap_setCell_same _ _ _ _ _ _ R'.out), Lib.hid ⟨fun i p E hi => by
          cases i with
          | zero =>
            simp only [List.getElem?_cons_zero, Option.some.injEq, Prod.mk.injEq] at hi
            obtain ⟨rfl, rfl⟩ := hi
            rw [heap_setCell_other _ _ _ _ (by show w.heap.size ≠ g; exact hgb)]; exact L.out.at 0 rfl
          | succ i => simp at hi, L.out.2.setCell (by show w.heap.size ≤ g; exact hge) _⟩⟩, by simp [intOf]; omega⟩
    · obtain rfl : k = N := by omega
      rw [HEND.out.1, HEND.out.2] at R
      go_wp2
      go_ret2
      exact ⟨g, rfl, L.out.2, fun i hi => by rw [Nat.zero_add, cell_of_row _ _ _ _ _ _ R.out, cntRow_get s D s 0 i hi, if_pos hi]⟩
end Go.Proofs.Ytjmfffgddmnkmab
