/- Waves as they may come: the cells of a wave, and a store into one. Condition: none. The laws' comparison of two floats, of two complex numbers, holds one that is no NaN equal to itself. Condition: no NaN. When two waves are equal by Go's own word. Condition: 64 complex numbers each. The laws' sum of a list of small numbers. Condition: at most 8 numbers of 0 to 64. -/
import Derived.Test.YtjmfffgddmnkmaaM8
import Derived.Test.YtjmfffgddmnkmaaM2
import Derived.Laws.ComplexArith
import Derived.Test.YtjmfffgddmnkmaaM9
import Derived.Laws.StructEq
import Derived.Test.YtjmfffgddmnkmaaM0
import Derived.Outline
namespace Go.Proofs.Ytjmfffgddmnkmaa
open Go Go.RowKit

/-- the cells of a wave of a side: complex numbers, if only some -/
def Wav (s : Int) (D : Array Value) : Prop := D.size = 65 ∧ D[0]? = some (.int .i64 s) ∧ ∀ k, k < 64 → ∃ x y, D[1 + k]? = some (.complex .f32 x y)

theorem wav_fill (s : Int) (f : Nat → Nat) (k : Nat) : Wav s (pic s (fill f k)) := by
  refine ⟨pic_size _ _ (fill_size _ _), pic_zero _ _, fun i hi => ?_⟩
  rw [Nat.add_comm, pic_succ, fill_get, if_pos hi]
  by_cases h : i < k
  · rw [if_pos h]; exact ⟨_, _, rfl⟩
  · rw [if_neg h]; exact ⟨_, _, rfl⟩
theorem wav_zc (s : Int) : Wav s (pic s zc) := by rw [← fill_zero (fun _ => 0)]; exact wav_fill _ _ _
theorem wav_one {s : Int} {D : Array Value} (h : Wav s D) : D.all (·.oneCell') = true := by
  rw [Array.all_eq_true]
  intro i hi
  cases i with
  | zero =>
    have e := h.2.1
    rw [Array.getElem?_eq_getElem hi] at e
    rw [Option.some.inj e]
    rfl
  | succ k =>
    obtain ⟨x, y, e⟩ := h.2.2 k (by have := h.1; omega)
    rw [Nat.add_comm, Array.getElem?_eq_getElem hi] at e
    rw [Option.some.inj e]
    rfl
theorem wav_set {s : Int} {D : Array Value} (h : Wav s D) (k x y : Nat) : Wav s (D.setIfInBounds (1 + k) (.complex .f32 x y)) := by
  refine ⟨by rw [Array.size_setIfInBounds]; exact h.1, ?_, fun i hi => ?_⟩
  · rw [Array.getElem?_setIfInBounds_ne (by omega)]; exact h.2.1
  · by_cases e : k = i
    · subst e
      rw [Array.getElem?_setIfInBounds_self_of_lt (by rw [h.1]; omega)]
      exact ⟨x, y, rfl⟩
    · rw [Array.getElem?_setIfInBounds_ne (by omega)]
      exact h.2.2 i hi
theorem wav_side {s t : Int} {D : Array Value} (h : Wav s D) : Wav t (D.setIfInBounds 0 (.int .i64 t)) := by
  refine ⟨by rw [Array.size_setIfInBounds]; exact h.1, ?_, fun i hi => ?_⟩
  · rw [Array.getElem?_setIfInBounds_self_of_lt (by rw [h.1]; omega)]
  · rw [Array.getElem?_setIfInBounds_ne (by omega)]
    exact h.2.2 i hi
theorem wav_no {s : Int} {D : Array Value} (h : Wav s D) (j : Nat) (b : Int) : D[j]? ≠ some (.int .u8 b) := by
  intro e
  cases j with
  | zero => rw [h.2.1] at e; cases e
  | succ k =>
    by_cases hk : k < 64
    · obtain ⟨x, y, e2⟩ := h.2.2 k hk
      rw [Nat.add_comm] at e2
      rw [e2] at e
      cases e
    · rw [Array.getElem?_eq_none (by have := h.1; omega)] at e
      cases e

end Go.Proofs.Ytjmfffgddmnkmaa

namespace Go.Proofs.Ytjmfffgddmnkmaa
open Go Go.RowKit

/-- equal to itself -/
def own (x : Nat) : Bool := FloatKind.f64.format.order x x == some .eq
def zer (x : Nat) : Bool := FloatKind.f64.format.order x 0 == some .eq

theorem int_cmp_self (a : Int) : compare a a = .eq := by
  show compareOfLessAndEq a a = .eq
  unfold compareOfLessAndEq
  rw [if_neg (by omega), if_pos rfl]

theorem own_number (x : Nat) (s : Bool) (m : Nat) (p : Int) (h : Ieee.double.read x = .number s m p) : own x = true := by
  unfold own
  have : FloatKind.f64.format.order x x = some .eq := by
    show (Ieee.double.read x).order (Ieee.double.read x) = _
    rw [h]
    simp only [Ieee.Datum.order, int_cmp_self]
  rw [this]
  rfl

theorem zer_div (x : Nat) (h : zer x = true) : ∃ r, floatBits .quo .f64 4607182418800017408 x = some r := by
  have h1 : FloatKind.f64.format.order x 0 = some .eq := by simpa [zer] using h
  have h2 : (Ieee.double.read x).order (Ieee.double.read 0) = some .eq := h1
  have h0 : Ieee.double.read 0 = .number false 0 (-1074) := by decide
  have h3 : Ieee.double.read 4607182418800017408 = .number false 4503599627370496 (-52) := by decide
  rw [h0] at h2
  unfold floatBits
  show ∃ r, Ieee.double.div 4607182418800017408 x = some r
  unfold Ieee.Format.div
  rw [h3]
  cases hr : Ieee.double.read x with
  | number s m p =>
    simp only [Ieee.Datum.quotient]
    split
    · exact ⟨_, rfl⟩
    · exact ⟨_, rfl⟩
  | infinity s => exact ⟨_, rfl⟩
  | nan s t =>
    rw [hr] at h2
    simp [Ieee.Datum.order] at h2

theorem sameFloat_refl (x : Nat) (h : own x = true) (w : World) : Calls Try.prog 86 #[.float .f64 x, .float .f64 x] w fun e w' => e = .returned (.bool true) ∧ w = w' := by
  have h1 : (FloatKind.f64.format.order x x == some .eq) = true := h
  have h2 : (FloatKind.f64.format.order x x != some .eq) = false := by rw [bne, h1]; rfl
  cases hz : zer x
  · have h3 : (FloatKind.f64.format.order x 0 == some .eq) = false := hz
    clear h hz
    go_enter Try.func86, Try.ntmps86
    go_wp2
    go_ret
    exact ⟨rfl, rfl⟩
  · have h3 : (FloatKind.f64.format.order x 0 == some .eq) = true := hz
    obtain ⟨r, hr⟩ := zer_div x hz
    have h4 := fun w => run_float_arith (P := Try.prog) w .quo 91 .f64 _ x r hr
    have h5 : ((FloatKind.f64.format.order r 0 == some .gt) == (FloatKind.f64.format.order r 0 == some .gt)) = true := by simp
    clear h hz hr
    go_enter Try.func86, Try.ntmps86
    go_wp2
    go_ret
    exact ⟨rfl, rfl⟩

theorem sameComplex_refl (x y : Nat) (h : own x = true) (h' : own y = true) (w : World) : Calls Try.prog 31 #[.complex .f64 x y, .complex .f64 x y] w fun e w' => e = .returned (.bool true) ∧ w = w' := by
  have H := Lib.hid h
  have H' := Lib.hid h'
  clear h h'
  go_enter Try.func31, Try.ntmps31
  go_wp2_with fail
  refine (sameFloat_refl x H.out _).mono ?_
  rintro e w' ⟨rfl, rfl⟩
  go_wp2_with fail
  refine (sameFloat_refl y H'.out _).mono ?_
  rintro e w' ⟨rfl, rfl⟩
  go_wp2
  go_ret
  exact ⟨rfl, rfl⟩
end Go.Proofs.Ytjmfffgddmnkmaa

namespace Go.Proofs.Ytjmfffgddmnkmaa
open Go Go.RowKit

theorem run_partC (zs : Array Value) (i x y : Nat) (h : zs[i]? = some (.complex .f32 x y)) (w : World) : (part 25 zs (i * 1)).run Try.prog w = .ok (.complex .f32 x y) w := by
  have a := Try.isAgg25
  simp [part, a, h]

theorem run_eqC (d x y a b : Nat) (w : World) : (Op.equalIn (d + 1) 25 (.complex .f32 x y) (.complex .f32 a b)).run Try.prog w = .ok (Op.floatEq .f32 x a && Op.floatEq .f32 y b) w := by
  simp [Op.equalIn, run_underlying Try.underlying25]

theorem run_eqA (zs ys : Array Value) (E : Nat → Bool) (h : ∀ k, k < 64 → ∃ x y a b, zs[k]? = some (.complex .f32 x y) ∧ ys[k]? = some (.complex .f32 a b) ∧ (Op.floatEq .f32 x a && Op.floatEq .f32 y b) = E k) (d : Nat) (w : World) :
    (Op.equalIn (d + 2) 30 (.agg zs) (.agg ys)).run Try.prog w = .ok ((List.range' 0 64).all E) w := by
  have z := Try.sizeOf25
  rw [Op.equalIn]
  simp only [Sem.run_bind, run_underlying Try.underlying30, Result.andThen_ok, z, Std.Legacy.Range.forIn_eq_forIn_range', Std.Legacy.Range.size, Nat.sub_zero, Nat.add_sub_cancel, Nat.div_one]
  have hl : ∀ i ∈ List.range' 0 64, i < 64 := by simp
  generalize List.range' 0 64 = l at *
  induction l with
  | nil => simp
  | cons i l ih =>
    obtain ⟨x, y, a, b, hx, hy, hE⟩ := h i (hl i (by simp))
    have ih' := ih (fun j hj => hl j (by simp [hj]))
    simp only [List.forIn_cons, Sem.run_bind, run_partC zs i x y hx, run_partC ys i a b hy, Result.andThen_ok, run_eqC, hE, List.all_cons]
    cases E i
    · simp
    · simpa using ih'

theorem run_partW (D : Array Value) (w : World) : (part 30 D 1).run Try.prog w = .ok (.agg (D.extract 1 65)) w := by
  have a := Try.isAgg30
  have z := Try.sizeOf30
  simp [part, a, z]

theorem ext_get (D : Array Value) (h : D.size = 65) (k : Nat) (hk : k < 64) : (D.extract 1 65)[k]? = D[1 + k]? := by
  rw [Array.getElem?_extract, if_pos (by omega)]

theorem run_eqW (s : Int) (D C : Array Value) (hD : Wav s D) (hC : Wav s C) (E : Nat → Bool)
    (h : ∀ k, k < 64 → ∃ x y a b, D[1 + k]? = some (.complex .f32 x y) ∧ C[1 + k]? = some (.complex .f32 a b) ∧ (Op.floatEq .f32 x a && Op.floatEq .f32 y b) = E k) (w : World) :
    (Op.equalIn 10000 32 (.agg D) (.agg C)).run Try.prog w = .ok ((List.range' 0 64).all E) w := by
  have hS : Try.prog.underlying 32 = some (.struct (Try.prog.fieldsOf 32)) := by kernel_rfl
  have hp : Try.prog.stoodInHeld 32 = false := by kernel_rfl
  rw [show (10000 : Nat) = 9999 + 1 from rfl, run_equalIn_agg w 9999 32 _ _ hS hp]
  have p1 : ∀ (D : Array Value), Wav s D → ∀ w : World, (part 2 D 0).run Try.prog w = .ok (.int .i64 s) w := by
    intro D hD w
    have a := Try.isAgg2
    simp [part, a, hD.2.1]
  have q1 := p1 D hD
  have q2 := p1 C hC
  have e1 := fun w => run_equalIn_int (P := Try.prog) w 9998 2 .i64 .i64 s s Try.underlying2
  have e2 := run_eqA (D.extract 1 65) (C.extract 1 65) E (fun k hk => by rw [ext_get D hD.1 k hk, ext_get C hC.1 k hk]; exact h k hk) 9997
  have p2 := run_partW D
  have p3 := run_partW C
  simp only [Program.fieldsOf, Try.underlying32]
  simp only [Op.eqFields, Sem.run_bind, Sem.run_ite, q1, q2, p2, p3, e1, e2, Result.andThen_ok]
  simp only [beq_self_eq_true, Bool.not_true, Bool.false_eq_true, if_false, ne_eq, show ¬ ("Side" : String) = "_" by decide, show ¬ ("Cells" : String) = "_" by decide, not_false_eq_true, if_true]
  cases (List.range' 0 64).all E <;> rfl

theorem run_eqlW (s : Int) (D C : Array Value) (hD : Wav s D) (hC : Wav s C) (E : Nat → Bool)
    (h : ∀ k, k < 64 → ∃ x y a b, D[1 + k]? = some (.complex .f32 x y) ∧ C[1 + k]? = some (.complex .f32 a b) ∧ (Op.floatEq .f32 x a && Op.floatEq .f32 y b) = E k) (w : World) :
    (binOp .eql 32 (.agg D) (.agg C)).run Try.prog w = .ok (.bool ((List.range' 0 64).all E)) w := by
  rw [run_eql_struct, run_eqW s D C hD hC E h w]
  rfl
theorem run_neqW (s : Int) (D C : Array Value) (hD : Wav s D) (hC : Wav s C) (E : Nat → Bool)
    (h : ∀ k, k < 64 → ∃ x y a b, D[1 + k]? = some (.complex .f32 x y) ∧ C[1 + k]? = some (.complex .f32 a b) ∧ (Op.floatEq .f32 x a && Op.floatEq .f32 y b) = E k) (w : World) :
    (binOp .neq 32 (.agg D) (.agg C)).run Try.prog w = .ok (.bool (!(List.range' 0 64).all E)) w := by
  rw [run_neq_struct, run_eqW s D C hD hC E h w]
  rfl

theorem self32 (x : Nat) (h : fin x = true) : Op.floatEq .f32 x x = true := by
  obtain ⟨s, m, p, hr, _⟩ := fin_read x h
  unfold Op.floatEq
  have : FloatKind.f32.format.order x x = some .eq := by
    show (Ieee.single.read x).order (Ieee.single.read x) = _
    rw [hr]
    simp only [Ieee.Datum.order, int_cmp_self]
  rw [this]
  rfl

theorem finW_wav {s : Int} {D : Array Value} (h : FinW s D) : Wav s D := by
  refine ⟨h.1, h.2.1, fun k hk => ?_⟩
  obtain ⟨x, y, hz, _⟩ := h.2.2 k hk
  exact ⟨x, y, hz⟩
/-- a wave of finite cells is no other than itself -/
theorem neq_self (s : Int) (D : Array Value) (h : FinW s D) (w : World) : (binOp .neq 32 (.agg D) (.agg D)).run Try.prog w = .ok (.bool false) w := by
  rw [run_neqW s D D (finW_wav h) (finW_wav h) (fun _ => true) (fun k hk => by
    obtain ⟨x, y, hz, hf⟩ := h.2.2 k hk
    rw [Bool.and_eq_true] at hf
    exact ⟨x, y, x, y, hz, hz, by rw [self32 x hf.1, self32 y hf.2]; rfl⟩) w]
  simp
theorem eql_self (s : Int) (D : Array Value) (h : FinW s D) (w : World) : (binOp .eql 32 (.agg D) (.agg D)).run Try.prog w = .ok (.bool true) w := by
  rw [run_eqlW s D D (finW_wav h) (finW_wav h) (fun _ => true) (fun k hk => by
    obtain ⟨x, y, hz, hf⟩ := h.2.2 k hk
    rw [Bool.and_eq_true] at hf
    exact ⟨x, y, x, y, hz, hz, by rw [self32 x hf.1, self32 y hf.2]; rfl⟩) w]
  simp
end Go.Proofs.Ytjmfffgddmnkmaa

namespace Go.Proofs.Ytjmfffgddmnkmaa
open Go Go.RowKit

def tot (f : Nat → Int) : Nat → Int
  | 0 => 0
  | k + 1 => tot f k + f k
theorem tot_small (f : Nat → Int) (k : Nat) (h : ∀ i, i < k → 0 ≤ f i ∧ f i ≤ 64) : 0 ≤ tot f k ∧ tot f k ≤ 64 * k := by
  induction k with
  | zero => simp [tot]
  | succ k ih =>
    have h1 := ih (fun i hi => h i (by omega))
    have h2 := h k (by omega)
    rw [tot]
    omega

set_option maxRecDepth 100000 in
set_option maxHeartbeats 400000 in
theorem sum_any (b off L cap : Nat) (f : Nat → Int) (hL : L ≤ 8) (hf : ∀ i, i < L → 0 ≤ f i ∧ f i ≤ 64) (w : World) (hc : ∀ i, i < L → w.cell? ⟨b, off + i, none⟩ = some (.int .i64 (f i))) :
    Calls Try.prog 40 #[.slice (some ⟨b, off, none⟩) L cap] w fun e w' => e = .returned (.int .i64 (tot f L)) ∧ w' = w := by
  have HC := Lib.hid hc
  have HF := Lib.hid hf
  clear hc hf
  go_enter Try.func40, Try.ntmps40
  go_wp2
  go_loopw [3, 4] (fun a i wr => ∃ k : Nat, k ≤ L ∧ i = .int .i64 k ∧ a = .int .i64 (tot f k) ∧ wr = w) (fun _ i _ => L - (intOf i).toNat)
  case atStart => exact ⟨0, by omega, rfl, rfl, rfl⟩
  case round =>
    obtain ⟨k, hk, rfl, rfl, rfl⟩ := hrel
    by_cases hlt : k < L
    · have hdk : decide ((k : Int) < (L : Int)) = true := by simp; omega
      have c := HC.out k hlt
      have h1 := HF.out k hlt
      have h2 := tot_small f k (fun i hi => HF.out i (by omega))
      have hw : IntKind.i64.wrap (tot f k + f k) = tot f k + f k := IntWalk.i64_in _ (by omega)
      have HT : Hid (tot f (k + 1) = tot f k + f k) := Lib.hid rfl
      generalize tot f k = a at *
      generalize f k = x at *
      go_wp2
      exact ⟨⟨k + 1, by omega, by go_num, by rw [HT.out], by trivial⟩, by simp [intOf]; omega⟩
    · obtain rfl : k = L := by omega
      go_wp2
      go_ret
      exact ⟨rfl, by trivial⟩
end Go.Proofs.Ytjmfffgddmnkmaa
