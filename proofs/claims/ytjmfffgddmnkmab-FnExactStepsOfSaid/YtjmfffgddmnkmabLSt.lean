/- The law of StepsOf returns true: program and model answer alike, and the program's list is its own. Condition: 64 floats. -/
import Derived.Test.YtjmfffgddmnkmabISt
import Derived.Test.YtjmfffgddmnkmabPicI
import Derived.Deep.QuietTactic
import Derived.BigQuiet
import Derived.Deep.CutBlock
import Derived.Deep.DeepCutAuto
namespace Go.Proofs.Ytjmfffgddmnkmab
open Go Go.RowKit

set_option maxHeartbeats 400000 in
theorem eqInts_nil (w : World) : Calls Try.prog 39 #[.slice none 0 0, .slice none 0 0] w fun e w' => e = .returned (.bool true) ∧ w = w' := by
  go_enter Try.func39, Try.ntmps39
  go_wp2
  refine wp_loop_rounds 1 ?_
  rw [rounds_succ]
  go_wp2
  go_ret
  exact ⟨rfl, rfl⟩
set_option maxHeartbeats 400000 in
theorem markInts_nil (w : World) : Calls Try.prog 40 #[.slice none 0 0, .int .i64 1] w fun e w' => e = .returned (.int .i64 1) ∧ w = w' := by
  go_enter Try.func40, Try.ntmps40
  go_wp2
  refine wp_loop_rounds 1 ?_
  rw [rounds_succ]
  go_wp2
  go_ret
  exact ⟨rfl, rfl⟩
set_option maxHeartbeats 400000 in
theorem heldInts_nil (w : World) : Calls Try.prog 41 #[.slice none 0 0, .int .i64 1] w fun e w' => e = .returned (.int .i64 1) ∧ w = w' := by
  go_enter Try.func41, Try.ntmps41
  go_wp2
  refine wp_loop_rounds 1 ?_
  rw [rounds_succ]
  go_wp2
  go_ret
  exact ⟨rfl, rfl⟩

set_option maxHeartbeats 1000000 in
theorem eqInts_rows (g b n c1 c2 : Nat) (f : Nat → Int) (hn : n ≤ 64) (w : World) (hg : RowJ g n f w) (hb : RowJ b n f w) : Calls Try.prog 39 #[.slice (some ⟨g, 0, none⟩) n c1, .slice (some ⟨b, 0, none⟩) n c2] w fun e w' => e = .returned (.bool true) ∧ ∃ k, w' = w.drewN k := by
  have HG := Lib.hid hg.2
  have HB := Lib.hid hb.2
  have hnn : ((n : Int) != (n : Int)) = false := by simp
  clear hg hb
  go_enter Try.func39, Try.ntmps39
  go_wp2
  go_loopw [5] (fun i wr => ∃ k d : Nat, k ≤ n ∧ i = .int .i64 k ∧ wr = w.drewN d) (fun i _ => n - (intOf i).toNat)
  case atStart => exact ⟨0, 0, by omega, rfl, rfl⟩
  case round =>
    obtain ⟨k, d, hk, rfl, rfl⟩ := hrel
    by_cases hlt : k < n
    · have hdk : decide ((k : Int) < (n : Int)) = true := by simp; omega
      have hk1 : (k : Int) < (n : Int) := by omega
      have hk0 : (0 : Int) ≤ (k : Int) := by omega
      have h1 := HG.out k hlt
      have h2 := HB.out k hlt
      have hff : (f k != f k) = false := by simp
      generalize f k = v at *
      go_wp2_with fail
      go_quiet (fail)
      go_wp2
      exact ⟨⟨k + 1, d + nq, by omega, by go_num, rfl⟩, by simp [intOf]; omega⟩
    · obtain rfl : k = n := by omega
      go_wp2
      go_ret
      exact ⟨rfl, d, rfl⟩

/-- numbers marked one by one -/
def mkRow (n : Nat) (f : Nat → Int) (k : Nat) : Array Value := Array.ofFn (n := n) fun i => if i.val < k then .int .i64 ((i.val + 1 : Nat) : Int) else .int .i64 (f i.val)
theorem mkRow_size (n : Nat) (f : Nat → Int) (k : Nat) : (mkRow n f k).size = n := by simp [mkRow]
theorem mkRow_get (n : Nat) (f : Nat → Int) (k i : Nat) : (mkRow n f k)[i]? = if i < n then some (if i < k then .int .i64 ((i + 1 : Nat) : Int) else .int .i64 (f i)) else none := by
  simp only [mkRow, Array.getElem?_ofFn]
  by_cases h : i < n <;> simp [h]
theorem mkRow_zero (n : Nat) (f : Nat → Int) : mkRow n f 0 = stRow n f n := by
  apply Array.ext_getElem?
  intro i
  rw [mkRow_get, stRow_get]
  by_cases h : i < n <;> simp [h]
theorem mkRow_set (n : Nat) (f : Nat → Int) (k : Nat) (hk : k < n) : (mkRow n f k).setIfInBounds k (.int .i64 ((k + 1 : Nat) : Int)) = mkRow n f (k + 1) := by
  apply Array.ext_getElem?
  intro i
  rw [Array.getElem?_setIfInBounds, mkRow_size, mkRow_get, mkRow_get]
  by_cases h1 : k = i
  · subst h1
    simp [hk]
  · rw [if_neg h1]
    by_cases h2 : i < k
    · simp [h2, show i < k + 1 by omega]
    · simp [h2, show ¬ i < k + 1 by omega]

set_option maxHeartbeats 1000000 in
theorem markInts_row (g n : Nat) (f : Nat → Int) (hn : n ≤ 64) (w : World) (hg : w.heap[g]? = some (.cells (stRow n f n) 2 (0, 0))) : Calls Try.prog 40 #[.slice (some ⟨g, 0, none⟩) n n, .int .i64 1] w fun e w' => e = .returned (.int .i64 ((n + 1 : Nat) : Int)) ∧ w'.heap[g]? = some (.cells (mkRow n f n) 2 (0, 0)) ∧ Below g w w' := by
  rw [← mkRow_zero] at hg
  have R0 := Lib.hid hg
  clear hg
  go_enter Try.func40, Try.ntmps40
  go_wp2
  go_loopw [1, 5] (fun m i wr => ∃ k : Nat, k ≤ n ∧ i = .int .i64 k ∧ m = .int .i64 ((k + 1 : Nat) : Int) ∧ Hid (wr.heap[g]? = some (.cells (mkRow n f k) 2 (0, 0))) ∧ Hid (Below g w wr)) (fun _ i _ => n - (intOf i).toNat)
  case atStart => exact ⟨0, by omega, rfl, rfl, R0, Lib.hid (Below.refl _ _)⟩
  case round =>
    obtain ⟨k, hk, rfl, rfl, R, B⟩ := hrel
    by_cases hlt : k < n
    · have hdk : decide ((k : Int) < (n : Int)) = true := by simp; omega
      have hold : wr.cell? ⟨g, k, none⟩ = some (.int .i64 (f k)) := by rw [cell_of_row _ _ _ _ _ _ R.out, mkRow_get, if_pos hlt, if_neg (by omega)]
      have hfree : wr.frozen? ⟨g, k, none⟩ = false := frozen_of_row _ _ _ _ _ R.out
      have HSET := Lib.hid (mkRow_set n f k hlt)
      go_wp2
      exact ⟨⟨k + 1, by omega, by go_num, by go_num, Lib.hid (by rw [← HSET.out]; exact heap_setCell_same _ _ _ _ _ _ R.out), Lib.hid (B.out.setCell (Nat.le_refl _) _)⟩, by simp [intOf]; omega⟩
    · obtain rfl : k = n := by omega
      go_wp2
      go_ret
      exact ⟨rfl, R.out, B.out⟩

set_option maxHeartbeats 1000000 in
theorem heldInts_row (g n : Nat) (f : Nat → Int) (hn : n ≤ 64) (w : World) (hg : w.heap[g]? = some (.cells (mkRow n f n) 2 (0, 0))) : Calls Try.prog 41 #[.slice (some ⟨g, 0, none⟩) n n, .int .i64 1] w fun e w' => e = .returned (.int .i64 ((n + 1 : Nat) : Int)) ∧ w = w' := by
  have R0 := Lib.hid hg
  clear hg
  go_enter Try.func41, Try.ntmps41
  go_wp2
  go_loop [1, 5] (fun m i => ∃ k : Nat, k ≤ n ∧ i = .int .i64 k ∧ m = .int .i64 ((k + 1 : Nat) : Int)) (fun _ i => n - (intOf i).toNat)
  case atStart => exact ⟨0, by omega, rfl, rfl⟩
  case round =>
    obtain ⟨k, hk, rfl, rfl⟩ := hrel
    by_cases hlt : k < n
    · have hdk : decide ((k : Int) < (n : Int)) = true := by simp; omega
      have hold : w.cell? ⟨g, k, none⟩ = some (.int .i64 ((k + 1 : Nat) : Int)) := by rw [cell_of_row _ _ _ _ _ _ R0.out, mkRow_get, if_pos hlt, if_pos hlt]
      have hee : (((k + 1 : Nat) : Int) != ((k + 1 : Nat) : Int)) = false := by simp
      go_wp2
      exact ⟨⟨k + 1, by omega, by go_num, by go_num⟩, by simp [intOf]; omega⟩
    · obtain rfl : k = n := by omega
      go_wp2
      go_ret
      exact ⟨rfl, rfl⟩

theorem rowJ_of (g n : Nat) (f : Nat → Int) (w : World) (hg : w.heap[g]? = some (.cells (stRow n f n) 2 (0, 0))) : RowJ g n f w :=
  ⟨(Array.getElem?_eq_some_iff.1 hg).1, fun i hi => by rw [cell_of_row _ _ _ _ _ _ hg, stRow_get, if_pos hi, if_pos hi]⟩

set_option maxRecDepth 100000 in
set_option maxHeartbeats 2000000 in
theorem lawSt_nil (s : Int) (zs : Array Value) (q : Nat) (m : Int) (hz : Floats zs) (c : Int) (HS : Hid (∀ w, Calls Try.prog 36 #[.agg (pic s zs), .float .f32 q, .int .i64 m] w fun e w' => e = .returned (.tuple #[.slice none 0 0, .int .i64 c]) ∧ Below w.heap.size w w')) (HI : Hid (∀ w, Calls Try.prog 38 #[.agg (pic s zs), .float .f32 q, .int .i64 m] w fun e w' => e = .returned (.tuple #[.slice none 0 0, .int .i64 c]) ∧ Below w.heap.size w w')) (w : World) :
    Calls Try.prog 6 #[.agg (pic s zs), .float .f32 q, .int .i64 m] w fun e w' => e = .returned (.bool true) ∧ Below w.heap.size w w' := by
  have HSP := Lib.hid (size30 s zs hz)
  have HA := Lib.hid (toPic_any s zs hz)
  generalize pic s zs = cs at *
  clear hz
  have hcc : (c != c) = false := by simp
  go_enter Try.func6, Try.ntmps6
  go_upto_region 1 with fail
  have P0 := Lib.hid (h1_0 w (.cells cs 48))
  have B0 : Hid (Below w.heap.size w (w.alloc (.cells cs 48))) := Lib.hid ((Below.refl _ _).alloc (Nat.le_refl _) _)
  generalize w.alloc (.cells cs 48) = w0 at *
  go_wp2_with (first | fail | (refine wpList_load_row rfl 48 (.tmp 3) rfl w.heap.size rfl 48 cs (0, 0) _ P0.out Try.underlying48 rfl HSP.out ?_))
  refine (HA.out _).mono ?_
  rintro e w1 ⟨rfl, b1⟩
  have P1 : Hid (w1.heap[w.heap.size]? = some (.cells cs 48 (0, 0))) := Lib.hid (by rw [b1.block _ (Array.getElem?_eq_some_iff.1 P0.out).1]; exact P0.out)
  have B1 : Hid (Below w.heap.size w w1) := Lib.hid (B0.out.trans (b1.mono B0.out.size))
  clear b1 P0 B0
  go_wp2_with fail
  refine (HS.out _).mono ?_
  rintro e w2 ⟨rfl, b2⟩
  have P2 : Hid (w2.heap[w.heap.size]? = some (.cells cs 48 (0, 0))) := Lib.hid (by rw [b2.block _ (Array.getElem?_eq_some_iff.1 P1.out).1]; exact P1.out)
  have B2 : Hid (Below w.heap.size w w2) := Lib.hid (B1.out.trans (b2.mono B1.out.size))
  clear b2 P1 B1
  go_wp2_with (first | fail | (refine wpList_load_row rfl 48 (.tmp 3) rfl w.heap.size rfl 48 cs (0, 0) _ P2.out Try.underlying48 rfl HSP.out ?_))
  refine (HA.out _).mono ?_
  rintro e w3 ⟨rfl, b3⟩
  have P3 : Hid (w3.heap[w.heap.size]? = some (.cells cs 48 (0, 0))) := Lib.hid (by rw [b3.block _ (Array.getElem?_eq_some_iff.1 P2.out).1]; exact P2.out)
  have B3 : Hid (Below w.heap.size w w3) := Lib.hid (B2.out.trans (b3.mono B2.out.size))
  clear b3 P2 B2
  go_wp2_with fail
  refine (HI.out _).mono ?_
  rintro e w4 ⟨rfl, b4⟩
  have P4 : Hid (w4.heap[w.heap.size]? = some (.cells cs 48 (0, 0))) := Lib.hid (by rw [b4.block _ (Array.getElem?_eq_some_iff.1 P3.out).1]; exact P3.out)
  have B4 : Hid (Below w.heap.size w w4) := Lib.hid (B3.out.trans (b4.mono B3.out.size))
  clear b4 P3 B3
  go_wp2_with fail
  refine (eqInts_nil _).mono ?_
  rintro e w' ⟨rfl, rfl⟩
  go_wp2_with fail
  refine (markInts_nil _).mono ?_
  rintro e w' ⟨rfl, rfl⟩
  go_wp2_with fail
  refine (heldInts_nil _).mono ?_
  rintro e w' ⟨rfl, rfl⟩
  go_wp2_with (first | fail | (refine wpList_load_row rfl 48 (.tmp 3) rfl w.heap.size rfl 48 cs (0, 0) _ P4.out Try.underlying48 rfl HSP.out ?_))
  refine (HA.out _).mono ?_
  rintro e w5 ⟨rfl, b5⟩
  have P5 : Hid (w5.heap[w.heap.size]? = some (.cells cs 48 (0, 0))) := Lib.hid (by rw [b5.block _ (Array.getElem?_eq_some_iff.1 P4.out).1]; exact P4.out)
  have B5 : Hid (Below w.heap.size w w5) := Lib.hid (B4.out.trans (b5.mono B4.out.size))
  clear b5 P4 B4
  go_wp2_with fail
  refine (HI.out _).mono ?_
  rintro e w6 ⟨rfl, b6⟩
  have P6 : Hid (w6.heap[w.heap.size]? = some (.cells cs 48 (0, 0))) := Lib.hid (by rw [b6.block _ (Array.getElem?_eq_some_iff.1 P5.out).1]; exact P5.out)
  have B6 : Hid (Below w.heap.size w w6) := Lib.hid (B5.out.trans (b6.mono B5.out.size))
  clear b6 P5 B5
  go_wp2_with fail
  refine (eqInts_nil _).mono ?_
  rintro e w' ⟨rfl, rfl⟩
  go_wp2_with fail
  refine (heldInts_nil _).mono ?_
  rintro e w' ⟨rfl, rfl⟩
  go_wp2
  go_ret
  exact ⟨rfl, B6.out⟩

set_option maxRecDepth 100000 in
set_option maxHeartbeats 2000000 in
theorem lawSt_rows (s : Int) (zs : Array Value) (q : Nat) (m : Int) (hz : Floats zs) (n : Nat) (hn : n ≤ 64) (f : Nat → Int) (HS : Hid (∀ w, Calls Try.prog 36 #[.agg (pic s zs), .float .f32 q, .int .i64 m] w fun e w' => ∃ g cap, e = .returned (.tuple #[.slice (some ⟨g, 0, none⟩) n cap, .int .i64 0]) ∧ RowJ g n f w' ∧ Below w.heap.size w w')) (HI : Hid (∀ w, Calls Try.prog 38 #[.agg (pic s zs), .float .f32 q, .int .i64 m] w fun e w' => ∃ g, e = .returned (.tuple #[.slice (some ⟨g, 0, none⟩) n n, .int .i64 0]) ∧ w.heap.size ≤ g ∧ w'.heap[g]? = some (.cells (stRow n f n) 2 (0, 0)) ∧ Below w.heap.size w w')) (w : World) :
    Calls Try.prog 6 #[.agg (pic s zs), .float .f32 q, .int .i64 m] w fun e w' => e = .returned (.bool true) ∧ Below w.heap.size w w' := by
  have HSP := Lib.hid (size30 s zs hz)
  have HA := Lib.hid (toPic_any s zs hz)
  generalize pic s zs = cs at *
  clear hz
  have hnn : (((n + 1 : Nat) : Int) != ((n + 1 : Nat) : Int)) = false := by simp
  have hn0 : decide (((n + 1 : Nat) : Int) < 0) = false := by simp; omega
  go_enter Try.func6, Try.ntmps6
  go_upto_region 1 with fail
  have P0 := Lib.hid (h1_0 w (.cells cs 48))
  have B0 : Hid (Below w.heap.size w (w.alloc (.cells cs 48))) := Lib.hid ((Below.refl _ _).alloc (Nat.le_refl _) _)
  generalize w.alloc (.cells cs 48) = w0 at *
  go_wp2_with (first | fail | (refine wpList_load_row rfl 48 (.tmp 3) rfl w.heap.size rfl 48 cs (0, 0) _ P0.out Try.underlying48 rfl HSP.out ?_))
  refine (HA.out _).mono ?_
  rintro e w1 ⟨rfl, b1⟩
  have P1 : Hid (w1.heap[w.heap.size]? = some (.cells cs 48 (0, 0))) := Lib.hid (by rw [b1.block _ (Array.getElem?_eq_some_iff.1 P0.out).1]; exact P0.out)
  have B1 : Hid (Below w.heap.size w w1) := Lib.hid (B0.out.trans (b1.mono B0.out.size))
  clear b1 P0 B0
  go_wp2_with fail
  refine (HS.out _).mono ?_
  rintro e w2 ⟨a, cap, rfl, hra, b2⟩
  have P2 : Hid (w2.heap[w.heap.size]? = some (.cells cs 48 (0, 0))) := Lib.hid (by rw [b2.block _ (Array.getElem?_eq_some_iff.1 P1.out).1]; exact P1.out)
  have B2 : Hid (Below w.heap.size w w2) := Lib.hid (B1.out.trans (b2.mono B1.out.size))
  clear b2 P1 B1
  have A2 := Lib.hid hra
  clear hra
  go_wp2_with (first | fail | (refine wpList_load_row rfl 48 (.tmp 3) rfl w.heap.size rfl 48 cs (0, 0) _ P2.out Try.underlying48 rfl HSP.out ?_))
  refine (HA.out _).mono ?_
  rintro e w3 ⟨rfl, b3⟩
  have A3 : Hid (RowJ a n f w3) := Lib.hid (A2.out.below b3)
  have P3 : Hid (w3.heap[w.heap.size]? = some (.cells cs 48 (0, 0))) := Lib.hid (by rw [b3.block _ (Array.getElem?_eq_some_iff.1 P2.out).1]; exact P2.out)
  have B3 : Hid (Below w.heap.size w w3) := Lib.hid (B2.out.trans (b3.mono B2.out.size))
  clear A2
  clear b3 P2 B2
  go_wp2_with fail
  refine (HI.out _).mono ?_
  rintro e w4 ⟨g, rfl, hg, hrg, b4⟩
  have A4 : Hid (RowJ a n f w4) := Lib.hid (A3.out.below b4)
  have R4 := Lib.hid hrg
  have hag : a < g := by have := A3.out.1; omega
  have hpg : w.heap.size < g := by have := (Array.getElem?_eq_some_iff.1 P3.out).1; omega
  clear hrg
  have P4 : Hid (w4.heap[w.heap.size]? = some (.cells cs 48 (0, 0))) := Lib.hid (by rw [b4.block _ (Array.getElem?_eq_some_iff.1 P3.out).1]; exact P3.out)
  have B4 : Hid (Below w.heap.size w w4) := Lib.hid (B3.out.trans (b4.mono B3.out.size))
  clear A3 hg
  clear b4 P3 B3
  go_wp2_with fail
  refine (eqInts_rows g a n n cap f hn w4 (rowJ_of g n f w4 R4.out) A4.out).mono ?_
  rintro e w' ⟨rfl, d, rfl⟩
  have P5 : Hid ((w4.drewN d).heap[w.heap.size]? = some (.cells cs 48 (0, 0))) := P4
  have A5 : Hid (RowJ a n f (w4.drewN d)) := Lib.hid (A4.out.below (below_drewN (Below.refl _ _) _))
  have R5 : Hid ((w4.drewN d).heap[g]? = some (.cells (stRow n f n) 2 (0, 0))) := R4
  have B5 : Hid (Below w.heap.size w (w4.drewN d)) := Lib.hid (below_drewN B4.out _)
  clear P4 A4 R4 B4
  generalize w4.drewN d = w5 at *
  go_wp2_with fail
  refine (markInts_row g n f hn w5 R5.out).mono ?_
  rintro e w6 ⟨rfl, r6, b6⟩
  have R6 := Lib.hid r6
  have P6 : Hid (w6.heap[w.heap.size]? = some (.cells cs 48 (0, 0))) := Lib.hid (by rw [b6.block _ hpg]; exact P5.out)
  have A6 : Hid (RowJ a n f w6) := Lib.hid ⟨Nat.lt_of_lt_of_le A5.out.1 b6.size, fun i hi => by rw [World.cell?_of_block (w := w5) (b6.block a hag)]; exact A5.out.2 i hi⟩
  have B6 : Hid (Below w.heap.size w w6) := Lib.hid (B5.out.trans (b6.mono (by omega)))
  clear r6 b6 R5 P5 A5 B5
  go_wp2_with fail
  refine (heldInts_row g n f hn w6 R6.out).mono ?_
  rintro e w' ⟨rfl, rfl⟩
  go_wp2_with (first | fail | (refine wpList_load_row rfl 48 (.tmp 3) rfl w.heap.size rfl 48 cs (0, 0) _ P6.out Try.underlying48 rfl HSP.out ?_))
  refine (HA.out _).mono ?_
  rintro e w7 ⟨rfl, b7⟩
  have A7 : Hid (RowJ a n f w7) := Lib.hid (A6.out.below b7)
  have R7 : Hid (w7.heap[g]? = some (.cells (mkRow n f n) 2 (0, 0))) := Lib.hid (by rw [b7.block _ (Array.getElem?_eq_some_iff.1 R6.out).1]; exact R6.out)
  have P7 : Hid (w7.heap[w.heap.size]? = some (.cells cs 48 (0, 0))) := Lib.hid (by rw [b7.block _ (Array.getElem?_eq_some_iff.1 P6.out).1]; exact P6.out)
  have B7 : Hid (Below w.heap.size w w7) := Lib.hid (B6.out.trans (b7.mono B6.out.size))
  clear A6 R6
  clear b7 P6 B6
  go_wp2_with fail
  refine (HI.out _).mono ?_
  rintro e w8 ⟨g2, rfl, hg2, hrg, b8⟩
  have A8 : Hid (RowJ a n f w8) := Lib.hid (A7.out.below b8)
  have R8 : Hid (w8.heap[g]? = some (.cells (mkRow n f n) 2 (0, 0))) := Lib.hid (by rw [b8.block _ (Array.getElem?_eq_some_iff.1 R7.out).1]; exact R7.out)
  have S8 := Lib.hid hrg
  clear hrg
  have P8 : Hid (w8.heap[w.heap.size]? = some (.cells cs 48 (0, 0))) := Lib.hid (by rw [b8.block _ (Array.getElem?_eq_some_iff.1 P7.out).1]; exact P7.out)
  have B8 : Hid (Below w.heap.size w w8) := Lib.hid (B7.out.trans (b8.mono B7.out.size))
  clear A7 R7 hg2
  clear b8 P7 B7
  go_wp2_with fail
  refine (eqInts_rows g2 a n n cap f hn w8 (rowJ_of g2 n f w8 S8.out) A8.out).mono ?_
  rintro e w' ⟨rfl, d2, rfl⟩
  have R9 : Hid ((w8.drewN d2).heap[g]? = some (.cells (mkRow n f n) 2 (0, 0))) := R8
  have B9 : Hid (Below w.heap.size w (w8.drewN d2)) := Lib.hid (below_drewN B8.out _)
  clear P8 A8 R8 B8 S8
  generalize w8.drewN d2 = w9 at *
  go_wp2_with fail
  refine (heldInts_row g n f hn w9 R9.out).mono ?_
  rintro e w' ⟨rfl, rfl⟩
  go_wp2
  go_ret
  exact ⟨rfl, B9.out⟩

theorem lawSt_any (s : Int) (zs : Array Value) (q : Nat) (m : Int) (hz : Floats zs) (w : World) :
    Calls Try.prog 6 #[.agg (pic s zs), .float .f32 q, .int .i64 m] w fun e w' => e = .returned (.bool true) ∧ Below w.heap.size w w' := by
  cases h0 : shown s zs
  · have hk := codeSt_one s zs q m (by rw [h0]; rfl)
    exact lawSt_nil s zs q m hz 1 (Lib.hid fun v => by have := specSt_no s zs q m hz (by rw [hk]; decide) v; rwa [hk] at this) (Lib.hid (implSt_no0 s zs q m hz h0)) w
  cases hf : fin q
  · have hk := codeSt_one s zs q m (by rw [h0, hf]; rfl)
    exact lawSt_nil s zs q m hz 1 (Lib.hid fun v => by have := specSt_no s zs q m hz (by rw [hk]; decide) v; rwa [hk] at this) (Lib.hid (implSt_no1 s zs q m hz h0 hf)) w
  cases hl : leZ q
  · cases hm : inside m 2 256
    · have hk := codeSt_two s zs q m (by rw [h0, hf]; rfl) (by rw [hl, hm]; rfl)
      exact lawSt_nil s zs q m hz 2 (Lib.hid fun v => by have := specSt_no s zs q m hz (by rw [hk]; decide) v; rwa [hk] at this) (Lib.hid (implSt_no3 s zs q m hz h0 hf hl hm)) w
    · obtain ⟨hs, n, rfl⟩ := shown_side s zs h0
      exact lawSt_rows n zs q m hz (n * n) (sq_le n hs) _ (Lib.hid (specSt_yes n zs q m hz hs h0 hf hl hm)) (Lib.hid (implSt_yes n zs q m hz hs h0 hf hl hm)) w
  · have hk := codeSt_two s zs q m (by rw [h0, hf]; rfl) (by rw [hl]; rfl)
    exact lawSt_nil s zs q m hz 2 (Lib.hid fun v => by have := specSt_no s zs q m hz (by rw [hk]; decide) v; rwa [hk] at this) (Lib.hid (implSt_no2 s zs q m hz h0 hf hl)) w
end Go.Proofs.Ytjmfffgddmnkmab
