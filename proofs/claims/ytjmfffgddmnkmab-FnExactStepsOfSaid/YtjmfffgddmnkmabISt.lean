/- The program's steps of a picture. Condition: 64 floats. -/
import Derived.Test.YtjmfffgddmnkmabSSt
import Derived.Test.YtjmfffgddmnkmabIA
import Derived.Laws.MakeOwn
namespace Go.Proofs.Ytjmfffgddmnkmab
open Go Go.RowKit

/-- n numbers, the first k of them by a rule, the others 0 -/
def stRow (n : Nat) (f : Nat → Int) (k : Nat) : Array Value := Array.ofFn (n := n) fun i => if i.val < k then .int .i64 (f i.val) else .int .i64 0
theorem stRow_size (n : Nat) (f : Nat → Int) (k : Nat) : (stRow n f k).size = n := by simp [stRow]
theorem stRow_get (n : Nat) (f : Nat → Int) (k i : Nat) : (stRow n f k)[i]? = if i < n then some (if i < k then .int .i64 (f i) else .int .i64 0) else none := by
  simp only [stRow, Array.getElem?_ofFn]
  by_cases h : i < n <;> simp [h]
theorem stRow_zero (n : Nat) (f : Nat → Int) : stRow n f 0 = Array.replicate n (.int .i64 0) := by
  apply Array.ext_getElem?
  intro i
  rw [stRow_get]
  simp only [Array.getElem?_replicate]
  split <;> simp
theorem stRow_set (n : Nat) (f : Nat → Int) (k : Nat) (hk : k < n) : (stRow n f k).setIfInBounds k (.int .i64 (f k)) = stRow n f (k + 1) := by
  apply Array.ext_getElem?
  intro i
  rw [Array.getElem?_setIfInBounds, stRow_size, stRow_get, stRow_get]
  by_cases h1 : k = i
  · subst h1
    simp [hk]
  · rw [if_neg h1]
    by_cases h2 : i < k
    · simp [h2, show i < k + 1 by omega]
    · simp [h2, show ¬ i < k + 1 by omega]

set_option maxRecDepth 100000 in
theorem madeRow64 (s : Nat) (hs : s ≤ 64) (v : World) : (Instr.makeSlice 36 (.int .i64 s) (.int .i64 s)).run Try.prog v = .ok (.slice (some ⟨v.heap.size, 0, none⟩) s s) (v.alloc (.cells (Array.replicate s (.int .i64 0)) 2)) := by
  have e : (Try.prog.info? 2).map (fun i => (i.zero, i.size, i.bytes)) = some (some (.int .i64 0), 1, 8) := by kernel_rfl
  obtain ⟨i, hi, e2⟩ := Option.map_eq_some_iff.1 e
  have hz : i.zero = some (.int .i64 0) := congrArg (·.1) e2
  have hs1 : i.size = 1 := congrArg (·.2.1) e2
  have hb : i.bytes = 8 := congrArg (·.2.2) e2
  have h := run_makeSlice (P := Try.prog) v 36 2 i (.int .i64 0) Try.underlying36 hi hz .i64 .i64 s s (by omega) (by omega) (by rw [hs1, Int.toNat_natCast]; omega) (by rw [hb]; omega) (by omega)
  rw [h, Int.toNat_natCast, hs1, Nat.mul_one]
  congr 2
  refine congrArg (fun z => Obj.cells z 2) ?_
  apply Array.ext'
  rw [Array.toList_replicate]
  exact toList_madeCells_one _ _

set_option maxRecDepth 100000 in
set_option maxHeartbeats 800000 in
theorem implSt_no0 (s : Int) (zs : Array Value) (q : Nat) (m : Int) (hz : Floats zs) (h0 : shown s zs = false) (w : World) : Calls Try.prog 38 #[.agg (pic s zs), .float .f32 q, .int .i64 m] w fun e w' => e = .returned (.tuple #[.slice none 0 0, .int .i64 1]) ∧ Below w.heap.size w w' := by
  have HS := Lib.hid (size32 s zs hz)
  have hc := impl_any s zs hz
  rw [h0] at hc
  have HC := Lib.hid hc
  generalize pic s zs = cs at *
  clear hz h0 hc
  go_enter Try.func38, Try.ntmps38
  go_wp2_with (first | fail | (refine wpList_load_row rfl 50 (.tmp 3) rfl w.heap.size rfl 50 cs (0, 0) _ (h1_0 _ _) Try.underlying50 rfl HS.out ?_))
  refine (HC.out _).mono ?_
  rintro e w1 ⟨rfl, b1⟩
  have B1 : Hid (Below w.heap.size w w1) := Lib.hid (((Below.refl w.heap.size w).alloc (Nat.le_refl _) _).trans (b1.mono (by rw [size_al]; omega)))
  go_wp2
  go_ret2
  exact ⟨rfl, B1.out⟩

set_option maxRecDepth 100000 in
set_option maxHeartbeats 800000 in
theorem implSt_no1 (s : Int) (zs : Array Value) (q : Nat) (m : Int) (hz : Floats zs) (h0 : shown s zs = true) (hf : fin q = false) (w : World) : Calls Try.prog 38 #[.agg (pic s zs), .float .f32 q, .int .i64 m] w fun e w' => e = .returned (.tuple #[.slice none 0 0, .int .i64 1]) ∧ Below w.heap.size w w' := by
  have HS := Lib.hid (size32 s zs hz)
  have hc := impl_any s zs hz
  rw [h0] at hc
  have HC := Lib.hid hc
  generalize pic s zs = cs at *
  clear hz h0 hc
  go_enter Try.func38, Try.ntmps38
  go_wp2_with (first | fail | (refine wpList_load_row rfl 50 (.tmp 3) rfl w.heap.size rfl 50 cs (0, 0) _ (h1_0 _ _) Try.underlying50 rfl HS.out ?_))
  refine (HC.out _).mono ?_
  rintro e w1 ⟨rfl, b1⟩
  have B1 : Hid (Below w.heap.size w w1) := Lib.hid (((Below.refl w.heap.size w).alloc (Nat.le_refl _) _).trans (b1.mono (by rw [size_al]; omega)))
  clear b1 HC HS
  go_wp2_with fail
  refine (finite_any _ _).mono ?_
  rw [hf]
  rintro e w2 ⟨rfl, n1, rfl⟩
  go_wp2
  go_ret2
  exact ⟨rfl, below_drewN B1.out _⟩

set_option maxRecDepth 100000 in
set_option maxHeartbeats 800000 in
theorem implSt_no2 (s : Int) (zs : Array Value) (q : Nat) (m : Int) (hz : Floats zs) (h0 : shown s zs = true) (hf : fin q = true) (hl : leZ q = true) (w : World) : Calls Try.prog 38 #[.agg (pic s zs), .float .f32 q, .int .i64 m] w fun e w' => e = .returned (.tuple #[.slice none 0 0, .int .i64 2]) ∧ Below w.heap.size w w' := by
  have HS := Lib.hid (size32 s zs hz)
  have hc := impl_any s zs hz
  rw [h0] at hc
  have HC := Lib.hid hc
  generalize pic s zs = cs at *
  clear hz h0 hc
  go_enter Try.func38, Try.ntmps38
  go_wp2_with (first | fail | (refine wpList_load_row rfl 50 (.tmp 3) rfl w.heap.size rfl 50 cs (0, 0) _ (h1_0 _ _) Try.underlying50 rfl HS.out ?_))
  refine (HC.out _).mono ?_
  rintro e w1 ⟨rfl, b1⟩
  have B1 : Hid (Below w.heap.size w w1) := Lib.hid (((Below.refl w.heap.size w).alloc (Nat.le_refl _) _).trans (b1.mono (by rw [size_al]; omega)))
  clear b1 HC HS
  go_wp2_with fail
  refine (finite_any _ _).mono ?_
  rw [hf]
  rintro e w2 ⟨rfl, n1, rfl⟩
  have hle : (FloatKind.f32.format.order q 0 == some .lt || FloatKind.f32.format.order q 0 == some .eq) = true := hl
  clear hl hf
  go_wp2
  go_ret2
  exact ⟨rfl, below_drewN B1.out _⟩

set_option maxRecDepth 100000 in
set_option maxHeartbeats 800000 in
theorem implSt_no3 (s : Int) (zs : Array Value) (q : Nat) (m : Int) (hz : Floats zs) (h0 : shown s zs = true) (hf : fin q = true) (hl : leZ q = false) (hm : inside m 2 256 = false) (w : World) : Calls Try.prog 38 #[.agg (pic s zs), .float .f32 q, .int .i64 m] w fun e w' => e = .returned (.tuple #[.slice none 0 0, .int .i64 2]) ∧ Below w.heap.size w w' := by
  have HS := Lib.hid (size32 s zs hz)
  have hc := impl_any s zs hz
  rw [h0] at hc
  have HC := Lib.hid hc
  generalize pic s zs = cs at *
  clear hz h0 hc
  go_enter Try.func38, Try.ntmps38
  go_wp2_with (first | fail | (refine wpList_load_row rfl 50 (.tmp 3) rfl w.heap.size rfl 50 cs (0, 0) _ (h1_0 _ _) Try.underlying50 rfl HS.out ?_))
  refine (HC.out _).mono ?_
  rintro e w1 ⟨rfl, b1⟩
  have B1 : Hid (Below w.heap.size w w1) := Lib.hid (((Below.refl w.heap.size w).alloc (Nat.le_refl _) _).trans (b1.mono (by rw [size_al]; omega)))
  clear b1 HC HS
  go_wp2_with fail
  refine (finite_any _ _).mono ?_
  rw [hf]
  rintro e w2 ⟨rfl, n1, rfl⟩
  have hle : (FloatKind.f32.format.order q 0 == some .lt || FloatKind.f32.format.order q 0 == some .eq) = false := hl
  clear hl hf
  go_wp2_with (go_at_call 102; refine (between_any _ _ _ _).mono ?_; rw [hm]; rintro e w' ⟨rfl, rfl⟩)
  go_ret2
  exact ⟨rfl, below_drewN B1.out _⟩

set_option maxRecDepth 100000 in
set_option maxHeartbeats 2000000 in
theorem implSt_yes (s : Nat) (zs : Array Value) (q : Nat) (m : Int) (hz : Floats zs) (hs : side s = true) (h0 : shown s zs = true) (hf : fin q = true) (hl : leZ q = false) (hm : inside m 2 256 = true) (w : World) : Calls Try.prog 38 #[.agg (pic s zs), .float .f32 q, .int .i64 m] w fun e w' => ∃ g, e = .returned (.tuple #[.slice (some ⟨g, 0, none⟩) (s * s : Nat) (s * s : Nat), .int .i64 0]) ∧ w.heap.size ≤ g ∧ w'.heap[g]? = some (.cells (stRow (s * s) (stepAt zs q m) (s * s)) 2 (0, 0)) ∧ Below w.heap.size w w' := by
  have HP0 := Lib.hid (pic_zero s zs)
  have HP := Lib.hid (pic_succ s zs)
  have hs8 : 1 ≤ s ∧ s ≤ 8 := by rcases side_nat s hs with rfl | rfl | rfl | rfl <;> omega
  have HSS : Hid (s * s ≤ 64) := Lib.hid (sq_le s hs)
  have hw0 : IntKind.i64.wrap ((s : Int) * (s : Int)) = ((s * s : Nat) : Int) := by rw [← Int.natCast_mul]; exact IntWalk.i64_in _ (by have := HSS.out; omega)
  have hM : ∀ v, (Instr.makeSlice 36 (.int .i64 ((s * s : Nat) : Int)) (.int .i64 ((s * s : Nat) : Int))).run Try.prog v = .ok (.slice (some ⟨v.heap.size, 0, none⟩) (s * s) (s * s)) (v.alloc (.cells (stRow (s * s) (stepAt zs q m) 0) 2)) := fun v => by
    rw [stRow_zero]; exact madeRow64 (s * s) HSS.out v
  have HL : Hid (∀ k, k < 64 → ∃ x, zs[k]? = some (.float .f32 x) ∧ ∀ v, Calls Try.prog 103 #[.float .f32 x, .float .f32 q, .int .i64 m] v fun e w' => e = .returned (.int .i64 (stepAt zs q m k)) ∧ v = w') := Lib.hid fun k hk => by
    obtain ⟨x, hx, hzk⟩ := hz.2 k hk
    refine ⟨x, hzk, ?_⟩
    obtain ⟨a1, a2⟩ := shown_level s zs h0 k hk
    unfold stepAt
    rw [bitsAt_of zs k x hzk] at a1 a2 ⊢
    exact stepOf_any x q m a1 a2 hf hl (inside_two m hm)
  have hle : (FloatKind.f32.format.order q 0 == some .lt || FloatKind.f32.format.order q 0 == some .eq) = false := hl
  clear hl
  generalize stepAt zs q m = F at *
  have HS := Lib.hid (size32 s zs hz)
  have hc := impl_any s zs hz
  rw [h0] at hc
  have HC := Lib.hid hc
  generalize pic s zs = cs at *
  clear hz h0 hc
  go_enter Try.func38, Try.ntmps38
  go_wp2_with (first | fail | (refine wpList_load_row rfl 50 (.tmp 3) rfl w.heap.size rfl 50 cs (0, 0) _ (h1_0 _ _) Try.underlying50 rfl HS.out ?_))
  refine (HC.out _).mono ?_
  rintro e w1 ⟨rfl, b1⟩
  have B1 : Hid (Below w.heap.size w w1) := Lib.hid (((Below.refl w.heap.size w).alloc (Nat.le_refl _) _).trans (b1.mono (by rw [size_al]; omega)))
  have P1 : Hid (w1.heap[w.heap.size]? = some (.cells cs 50 (0, 0))) := Lib.hid (by rw [b1.block _ (by rw [size_al]; omega)]; exact h1_0 _ _)
  have hsz : w.heap.size + 1 ≤ w1.heap.size := by have := b1.size; rw [size_al] at this; exact this
  clear b1 HC HS
  go_wp2_with fail
  refine (finite_any _ _).mono ?_
  rw [hf]
  rintro e w2 ⟨rfl, n1, rfl⟩
  have P2 : Hid ((w1.drewN n1).heap[w.heap.size]? = some (.cells cs 50 (0, 0))) := P1
  have B2 : Hid (Below w.heap.size w (w1.drewN n1)) := Lib.hid (below_drewN B1.out _)
  have hsz2 : w.heap.size + 1 ≤ (w1.drewN n1).heap.size := hsz
  clear P1 B1 hsz
  generalize w1.drewN n1 = v at *
  have hp0 : v.cell? ⟨w.heap.size, 0, none⟩ = some (.int .i64 s) := by rw [cell_of_row _ _ _ _ _ _ P2.out]; exact HP0.out
  generalize hN : s * s = N at *
  have hN64 : N ≤ 64 := HSS.out
  have HN := Lib.hid hN
  clear hN
  go_wp2_with (go_at_call 102; refine (between_any _ _ _ _).mono ?_; rw [hm]; rintro e w' ⟨rfl, rfl⟩)
  have R1 : Hid ((v.alloc (.cells (stRow N F 0) 2)).heap[v.heap.size]? = some (.cells (stRow N F 0) 2 (0, 0))) := Lib.hid (h1_0 _ _)
  have P3 : Hid ((v.alloc (.cells (stRow N F 0) 2)).heap[w.heap.size]? = some (.cells cs 50 (0, 0))) := Lib.hid (by rw [heap_alloc_old _ _ (by omega)]; exact P2.out)
  have B3 : Hid (Below w.heap.size w (v.alloc (.cells (stRow N F 0) 2))) := Lib.hid (B2.out.alloc (by omega) _)
  generalize v.alloc (.cells (stRow N F 0) 2) = v1 at *
  generalize v.heap.size = g at *
  clear hp0 P2 B2 hle hM
  go_loopw [33] (fun i wr => ∃ k : Nat, k ≤ N ∧ i = .int .i64 k ∧ Hid (wr.heap[g]? = some (.cells (stRow N F k) 2 (0, 0))) ∧ Hid (wr.heap[w.heap.size]? = some (.cells cs 50 (0, 0))) ∧ Hid (Below w.heap.size w wr)) (fun i _ => N - (intOf i).toNat)
  case atStart => exact ⟨0, by omega, rfl, R1, P3, B3⟩
  case round =>
    obtain ⟨k, hk, rfl, R, P0, B⟩ := hrel
    by_cases hlt : k < N
    · have hdk : decide ((k : Int) < (N : Int)) = true := by simp; omega
      have hk64 : (k : Int) < 64 := by omega
      obtain ⟨x, hzk, hst⟩ := HL.out k (by omega)
      have hpk : wr.cell? ⟨w.heap.size, 1 + k, none⟩ = some (.float .f32 x) := by rw [cell_of_row _ _ _ _ _ _ P0.out, Nat.add_comm, HP.out]; exact hzk
      have HST := Lib.hid hst
      have hold : wr.cell? ⟨g, k, none⟩ = some (.int .i64 0) := by rw [cell_of_row _ _ _ _ _ _ R.out, stRow_get, if_pos hlt, if_neg (by omega)]
      have hfree : wr.frozen? ⟨g, k, none⟩ = false := frozen_of_row _ _ _ _ _ R.out
      have HSET := Lib.hid (stRow_set N F k hlt)
      clear hzk hst
      go_wp2_with (go_at_call 103; refine (HST.out _).mono ?_; rintro e w' ⟨rfl, rfl⟩)
      exact ⟨⟨k + 1, by omega, by go_num, Lib.hid (by rw [← HSET.out]; exact heap_setCell_same _ _ _ _ _ _ R.out), Lib.hid (by rw [heap_setCell_other _ _ _ _ (by show w.heap.size ≠ g; omega)]; exact P0.out), Lib.hid (B.out.setCell (by show w.heap.size ≤ g; omega) _)⟩, by simp [intOf]; omega⟩
    · obtain rfl : k = N := by omega
      have HR := R
      clear R
      go_wp2
      go_ret2
      exact ⟨g, by rw [HN.out]; rfl, by omega, by rw [HN.out]; exact HR.out, B.out⟩
end Go.Proofs.Ytjmfffgddmnkmab
