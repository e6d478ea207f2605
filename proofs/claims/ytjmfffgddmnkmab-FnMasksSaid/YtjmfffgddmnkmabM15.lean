/- The model's quarter turn of a wave. Condition: 64 complex numbers. The laws' comparison of two floats, of two complex numbers, holds one that is no NaN equal to itself. Condition: no NaN. -/
import Derived.Test.YtjmfffgddmnkmabM13
import Derived.Test.YtjmfffgddmnkmabM14
import Derived.Deep.CutBlock
import Derived.Deep.DeepCutAuto
import Derived.Deep.RegionHeld3
import Derived.Test.YtjmfffgddmnkmabFinW
import Derived.Laws.ComplexArith
namespace Go.Proofs.Ytjmfffgddmnkmab
open Go Go.RowKit

/-- the cells that are told are filled by a rule, the others 0 -/
def pf (F : Nat → Nat × Nat) (P : Nat → Bool) : Array Value := Array.ofFn (n := 64) fun i => if P i.val = true then .complex .f32 (F i.val).1 (F i.val).2 else .complex .f32 0 0
theorem pf_get (F : Nat → Nat × Nat) (P : Nat → Bool) (i : Nat) : (pf F P)[i]? = if i < 64 then some (if P i = true then .complex .f32 (F i).1 (F i).2 else .complex .f32 0 0) else none := by
  simp only [pf, Array.getElem?_ofFn]
  by_cases h : i < 64 <;> simp [h]
theorem pf_size (F : Nat → Nat × Nat) (P : Nat → Bool) : (pf F P).size = 64 := by simp [pf]
theorem pf_congr (F : Nat → Nat × Nat) (P Q : Nat → Bool) (h : ∀ i, i < 64 → P i = Q i) : pf F P = pf F Q := by
  apply Array.ext_getElem?
  intro i
  rw [pf_get, pf_get]
  by_cases hi : i < 64
  · rw [h i hi]
  · rw [if_neg hi, if_neg hi]
theorem pf_gf (F : Nat → Nat × Nat) (k : Nat) : gf F k = pf F (fun i => decide (i < k)) := by
  apply Array.ext_getElem?
  intro i
  rw [pf_get, gf_get]
  simp
theorem pf_set (s : Int) (F : Nat → Nat × Nat) (P : Nat → Bool) (k : Nat) (hk : k < 64) : (pic s (pf F P)).setIfInBounds (1 + k) (.complex .f32 (F k).1 (F k).2) = pic s (pf F (fun i => P i || i == k)) := by
  apply Array.ext_getElem?
  intro i
  rw [Array.getElem?_setIfInBounds, pic_size _ _ (pf_size F P)]
  cases i with
  | zero => rw [if_neg (by omega), pic_zero, pic_zero]
  | succ i =>
    rw [pic_succ, pic_succ, pf_get, pf_get]
    by_cases h1 : 1 + k = i + 1
    · obtain rfl : k = i := by omega
      simp [hk, show 1 + k = k + 1 by omega]
    · rw [if_neg h1]
      have : (i == k) = false := by simp; omega
      simp [this]
theorem pf_some (s : Int) (F : Nat → Nat × Nat) (P : Nat → Bool) (k : Nat) (hk : k < 64) : ∃ x y, (pic s (pf F P))[1 + k]? = some (.complex .f32 x y) := by
  rw [Nat.add_comm, pic_succ, pf_get, if_pos hk]
  by_cases h : P k = true
  · exact ⟨_, _, by rw [if_pos h]⟩
  · exact ⟨0, 0, by rw [if_neg h]⟩
theorem pf_one (s : Int) (F : Nat → Nat × Nat) (P : Nat → Bool) : (pic s (pf F P)).all (·.oneCell') = true := by
  rw [Array.all_eq_true_iff_forall_mem]
  intro v hv
  obtain ⟨i, hi, he⟩ := Array.mem_iff_getElem.1 hv
  have h := Array.getElem?_eq_getElem hi
  rw [he] at h
  cases i with
  | zero => rw [pic_zero] at h; cases h; rfl
  | succ i =>
    rw [pic_succ, pf_get] at h
    split at h
    · cases h
      split <;> rfl
    · cases h

/-- the cell of the quarter turn at a place -/
def cellQT (s : Nat) (D : Array Value) (i : Nat) : Nat × Nat := (reAt D (s * (s - 1 - i % s) + i / s), imAt D (s * (s - 1 - i % s) + i / s))
/-- the places that are turned to before the row y, the column x -/
def doneQT (s y x i : Nat) : Bool := decide (i < s * s) && (decide (s - 1 - i % s < y) || (decide (s - 1 - i % s = y) && decide (i / s < x)))
theorem doneQT_zero (s : Nat) (i : Nat) : doneQT s 0 0 i = false := by
  unfold doneQT
  simp
theorem doneQT_row (s : Nat) (y : Nat) (i : Nat) : doneQT s y s i = doneQT s (y + 1) 0 i := by
  unfold doneQT
  rw [Bool.eq_iff_iff]
  simp
  intro h
  have : i / s < s := Nat.div_lt_of_lt_mul h
  omega
theorem doneQT_all (s : Nat) (hs : side s = true) (i : Nat) : doneQT s s 0 i = decide (i < s * s) := by
  unfold doneQT
  rw [Bool.eq_iff_iff]
  simp
  intro h
  have : 0 < s := by rcases side_nat s hs with rfl | rfl | rfl | rfl <;> omega
  omega
theorem doneQT_next (s : Nat) (y x : Nat) (hy : y < s) (hx : x < s) (i : Nat) : (doneQT s y x i || i == s * x + (s - 1 - y)) = doneQT s y (x + 1) i := by
  have h0 : 0 < s := by omega
  by_cases he : i = s * x + (s - 1 - y)
  · obtain ⟨e1, e2⟩ := place_at s x (s - 1 - y) (by omega)
    rw [← he] at e1 e2
    have hlt : i < s * s := by
      rw [he]
      calc s * x + (s - 1 - y) < s * x + s := by omega
        _ = s * (x + 1) := by rw [Nat.mul_succ]
        _ ≤ s * s := Nat.mul_le_mul_left _ hx
    have h1 : doneQT s y (x + 1) i = true := by
      unfold doneQT
      rw [e1, e2, show decide (i < s * s) = true by simp [hlt], show decide (s - 1 - (s - 1 - y) = y) = true by simp; omega, show decide (x < x + 1) = true by simp]
      simp
    have h2 : (i == s * x + (s - 1 - y)) = true := by rw [beq_iff_eq]; exact he
    rw [h1, h2, Bool.or_true]
  · have h2 : (i == s * x + (s - 1 - y)) = false := by rw [beq_eq_false_iff_ne]; exact he
    rw [h2, Bool.or_false]
    have hd := Nat.div_add_mod i s
    have hm := Nat.mod_lt i h0
    unfold doneQT
    rw [Bool.eq_iff_iff]
    simp
    intro hlt
    constructor
    · intro h
      omega
    · intro h
      rcases h with h | ⟨h3, h4⟩
      · exact Or.inl h
      · refine Or.inr ⟨h3, ?_⟩
        by_cases h5 : i / s = x
        · exfalso
          apply he
          rw [h5] at hd
          omega
        · omega

theorem cellQT_at (s : Nat) (D : Array Value) (y x : Nat) (hy : y < s) : cellQT s D (s * x + (s - 1 - y)) = (reAt D (s * y + x), imAt D (s * y + x)) := by
  obtain ⟨e1, e2⟩ := place_at s x (s - 1 - y) (by omega)
  unfold cellQT
  rw [e1, e2, show s - 1 - (s - 1 - y) = y by omega]

/-- what stays while the wave for a quarter turn is laid -/
def KeptQ (w : World) (D Z : Array Value) (w' : World) : Prop :=
  w'.heap[w.heap.size]? = some (.cells D 30 (0, 0)) ∧ w'.heap[w.heap.size + 1]? = some (.cells Z 30 (0, 0)) ∧ Below w.heap.size w w'
theorem KeptQ.alloc {w : World} {D Z : Array Value} {v : World} (h : KeptQ w D Z v) (o : Obj) : KeptQ w D Z (v.alloc o) := by
  have l0 := (Array.getElem?_eq_some_iff.1 h.1).1
  have l1 := (Array.getElem?_eq_some_iff.1 h.2.1).1
  exact ⟨by rw [heap_alloc_old _ _ l0]; exact h.1, by rw [heap_alloc_old _ _ l1]; exact h.2.1, h.2.2.alloc (by omega) _⟩
theorem KeptQ.row {w : World} {D Z : Array Value} {v : World} (h : KeptQ w D Z v) (b : Nat) (cs : Array Value) (hb : w.heap.size + 1 < b) : KeptQ w D Z (v.setRow b cs) :=
  ⟨by rw [heap_setRow_other _ _ _ _ (by omega)]; exact h.1, by rw [heap_setRow_other _ _ _ _ (by omega)]; exact h.2.1, below_setRow h.2.2 (by omega) _⟩
theorem KeptQ.lt {w : World} {D Z : Array Value} {v : World} (h : KeptQ w D Z v) : w.heap.size + 1 < v.heap.size := (Array.getElem?_eq_some_iff.1 h.2.1).1

end Go.Proofs.Ytjmfffgddmnkmab

namespace Go.Proofs.Ytjmfffgddmnkmab
open Go Go.RowKit

/-- equal to itself -/
def own (x : Nat) : Bool := FloatKind.f64.format.order x x == some .eq
def zer (x : Nat) : Bool := FloatKind.f64.format.order x 0 == some .eq

theorem int_cmp_self (a : Int) : compare a a = .eq := by
  show compareOfLessAndEq a a = .eq
  unfold compareOfLessAndEq
  rw [if_neg (by omega), if_pos rfl]

theorem own_number (x : Nat) (s : Bool) (m : Nat) (p : Int) (h : Ieee.double.read x = .number s m p) : own x = true := by
  unfold own
  have : FloatKind.f64.format.order x x = some .eq := by
    show (Ieee.double.read x).order (Ieee.double.read x) = _
    rw [h]
    simp only [Ieee.Datum.order, int_cmp_self]
  rw [this]
  rfl

theorem zer_div (x : Nat) (h : zer x = true) : ∃ r, floatBits .quo .f64 4607182418800017408 x = some r := by
  have h1 : FloatKind.f64.format.order x 0 = some .eq := by simpa [zer] using h
  have h2 : (Ieee.double.read x).order (Ieee.double.read 0) = some .eq := h1
  have h0 : Ieee.double.read 0 = .number false 0 (-1074) := by decide
  have h3 : Ieee.double.read 4607182418800017408 = .number false 4503599627370496 (-52) := by decide
  rw [h0] at h2
  unfold floatBits
  show ∃ r, Ieee.double.div 4607182418800017408 x = some r
  unfold Ieee.Format.div
  rw [h3]
  cases hr : Ieee.double.read x with
  | number s m p =>
    simp only [Ieee.Datum.quotient]
    split
    · exact ⟨_, rfl⟩
    · exact ⟨_, rfl⟩
  | infinity s => exact ⟨_, rfl⟩
  | nan s t =>
    rw [hr] at h2
    simp [Ieee.Datum.order] at h2

theorem sameFloat_refl (x : Nat) (h : own x = true) (w : World) : Calls Try.prog 142 #[.float .f64 x, .float .f64 x] w fun e w' => e = .returned (.bool true) ∧ w = w' := by
  have h1 : (FloatKind.f64.format.order x x == some .eq) = true := h
  have h2 : (FloatKind.f64.format.order x x != some .eq) = false := by rw [bne, h1]; rfl
  cases hz : zer x
  · have h3 : (FloatKind.f64.format.order x 0 == some .eq) = false := hz
    clear h hz
    go_enter Try.func142, Try.ntmps142
    go_wp2
    go_ret
    exact ⟨rfl, rfl⟩
  · have h3 : (FloatKind.f64.format.order x 0 == some .eq) = true := hz
    obtain ⟨r, hr⟩ := zer_div x hz
    have h4 := fun w => run_float_arith (P := Try.prog) w .quo 120 .f64 _ x r hr
    have h5 : ((FloatKind.f64.format.order r 0 == some .gt) == (FloatKind.f64.format.order r 0 == some .gt)) = true := by simp
    clear h hz hr
    go_enter Try.func142, Try.ntmps142
    go_wp2
    go_ret
    exact ⟨rfl, rfl⟩

theorem sameComplex_refl (x y : Nat) (h : own x = true) (h' : own y = true) (w : World) : Calls Try.prog 130 #[.complex .f64 x y, .complex .f64 x y] w fun e w' => e = .returned (.bool true) ∧ w = w' := by
  have H := Lib.hid h
  have H' := Lib.hid h'
  clear h h'
  go_enter Try.func130, Try.ntmps130
  go_wp2_with fail
  refine (sameFloat_refl x H.out _).mono ?_
  rintro e w' ⟨rfl, rfl⟩
  go_wp2_with fail
  refine (sameFloat_refl y H'.out _).mono ?_
  rintro e w' ⟨rfl, rfl⟩
  go_wp2
  go_ret
  exact ⟨rfl, rfl⟩
end Go.Proofs.Ytjmfffgddmnkmab
