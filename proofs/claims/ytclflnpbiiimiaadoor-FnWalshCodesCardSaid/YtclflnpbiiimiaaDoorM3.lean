/- The laws' comparison of two floats, of two complex numbers, holds one that is no NaN equal to itself. Condition: no NaN. What is a complex number, and what lies within 64, in the program's ways to ask. Condition: none. The law's comparison of two waves holds a wave of finite cells equal to itself. Condition: 64 finite cells. -/
import Derived.Test.YtclflnpbiiimiaaDoorM1
import Derived.Laws.ComplexArith
import Derived.Test.YtclflnpbiiimiaaDoorM2
import Derived.Deep.QuietTactic
import Derived.BigQuiet
namespace Go.Proofs.YtclflnpbiiimiaaDoor
open Go Go.RowKit

/-- equal to itself -/
def own (x : Nat) : Bool := FloatKind.f64.format.order x x == some .eq
def zer (x : Nat) : Bool := FloatKind.f64.format.order x 0 == some .eq

theorem int_cmp_self (a : Int) : compare a a = .eq := by
  show compareOfLessAndEq a a = .eq
  unfold compareOfLessAndEq
  rw [if_neg (by omega), if_pos rfl]

theorem own_number (x : Nat) (s : Bool) (m : Nat) (p : Int) (h : Ieee.double.read x = .number s m p) : own x = true := by
  unfold own
  have : FloatKind.f64.format.order x x = some .eq := by
    show (Ieee.double.read x).order (Ieee.double.read x) = _
    rw [h]
    simp only [Ieee.Datum.order, int_cmp_self]
  rw [this]
  rfl

theorem zer_div (x : Nat) (h : zer x = true) : ∃ r, floatBits .quo .f64 4607182418800017408 x = some r := by
  have h1 : FloatKind.f64.format.order x 0 = some .eq := by simpa [zer] using h
  have h2 : (Ieee.double.read x).order (Ieee.double.read 0) = some .eq := h1
  have h0 : Ieee.double.read 0 = .number false 0 (-1074) := by decide
  have h3 : Ieee.double.read 4607182418800017408 = .number false 4503599627370496 (-52) := by decide
  rw [h0] at h2
  unfold floatBits
  show ∃ r, Ieee.double.div 4607182418800017408 x = some r
  unfold Ieee.Format.div
  rw [h3]
  cases hr : Ieee.double.read x with
  | number s m p =>
    simp only [Ieee.Datum.quotient]
    split
    · exact ⟨_, rfl⟩
    · exact ⟨_, rfl⟩
  | infinity s => exact ⟨_, rfl⟩
  | nan s t =>
    rw [hr] at h2
    simp [Ieee.Datum.order] at h2

theorem sameFloat_refl (x : Nat) (h : own x = true) (w : World) : Calls Tryd.prog 63 #[.float .f64 x, .float .f64 x] w fun e w' => e = .returned (.bool true) ∧ w = w' := by
  have h1 : (FloatKind.f64.format.order x x == some .eq) = true := h
  have h2 : (FloatKind.f64.format.order x x != some .eq) = false := by rw [bne, h1]; rfl
  cases hz : zer x
  · have h3 : (FloatKind.f64.format.order x 0 == some .eq) = false := hz
    clear h hz
    go_enter Tryd.func63, Tryd.ntmps63
    go_wp2
    go_ret
    exact ⟨rfl, rfl⟩
  · have h3 : (FloatKind.f64.format.order x 0 == some .eq) = true := hz
    obtain ⟨r, hr⟩ := zer_div x hz
    have h4 := fun w => run_float_arith (P := Tryd.prog) w .quo 85 .f64 _ x r hr
    have h5 : ((FloatKind.f64.format.order r 0 == some .gt) == (FloatKind.f64.format.order r 0 == some .gt)) = true := by simp
    clear h hz hr
    go_enter Tryd.func63, Tryd.ntmps63
    go_wp2
    go_ret
    exact ⟨rfl, rfl⟩

end Go.Proofs.YtclflnpbiiimiaaDoor

namespace Go.Proofs.YtclflnpbiiimiaaDoor
open Go Go.RowKit

/-- 64 finite complex numbers -/
def Cells (zs : Array Value) : Prop := zs.size = 64 ∧ ∀ k, k < 64 → ∃ x y, fin x = true ∧ fin y = true ∧ zs[k]? = some (.complex .f32 x y)

theorem size35 : (Tryd.prog.info? 33).map (·.size) = some 64 := by kernel_rfl
theorem info37 : (Tryd.prog.info? 35).map (fun i => (i.zero, i.size)) = some (some (.agg (pic 0 (Array.replicate 64 (.complex .f32 0 0)))), 65) := by kernel_rfl

/-- within -64 and 64 -/
def within (k : Int) : Bool := decide (-64 ≤ k) && decide (k ≤ 64)

theorem l01In_any (k : Int) (w : World) : Calls Tryd.prog 40 #[.int .i64 k, .int .i64 (-64), .int .i64 64] w fun e w' => e = .returned (.bool (within k)) ∧ w = w' := by
  by_cases h1 : -64 ≤ k
  · by_cases h2 : k ≤ 64
    · have e : within k = true := by simp [within, h1, h2]
      rw [e]
      go_enter Tryd.func40, Tryd.ntmps40
      go_wp2
      go_ret
      exact ⟨rfl, rfl⟩
    · have e : within k = false := by simp [within, h2]
      rw [e]
      go_enter Tryd.func40, Tryd.ntmps40
      go_wp2
      go_ret
      exact ⟨rfl, rfl⟩
  · have e : within k = false := by simp [within, h1]
    rw [e]
    go_enter Tryd.func40, Tryd.ntmps40
    go_wp2
    go_ret
    exact ⟨rfl, rfl⟩

end Go.Proofs.YtclflnpbiiimiaaDoor

namespace Go.Proofs.YtclflnpbiiimiaaDoor
open Go Go.RowKit

theorem conv_number (x : Nat) (h : fin x = true) : ∃ s m p, Ieee.double.read (conv x) = .number s m p := by
  obtain ⟨s, m, p, hr, hm, hp, hp'⟩ := fin_read x h
  unfold conv
  rw [hr]
  simp only [Ieee.Format.write]
  have key : ∀ r, r < 9218868437227405312 → ∃ s' m' p', Ieee.double.read (Ieee.double.word s r) = .number s' m' p' := by
    intro r hr'
    rw [read64 (Ieee.double.word s r), word_mod s r (by omega)]
    simp only [hr', if_true]
    split
    · exact ⟨_, _, _, rfl⟩
    · exact ⟨_, _, _, rfl⟩
  rcases Nat.eq_zero_or_pos m with h0 | h0
  · subst h0
    rw [conv_zero]
    exact key 0 (by omega)
  · obtain ⟨k, e, hn, hk, hk1, hk2, he1, he2, he, hl⟩ := near64 s m p h0 hm hp hp'
    rw [hn]
    exact key _ (by omega)

theorem own_conv (x : Nat) (h : fin x = true) : own (conv x) = true := by
  obtain ⟨s, m, p, hd⟩ := conv_number x h
  exact own_number _ s m p hd

theorem float_conv (x : Nat) (h : fin x = true) : floatToFloatBits .f32 x .f64 = some (conv x) := by
  obtain ⟨s, m, p, hr, _⟩ := fin_read x h
  have h' : FloatKind.f32.decode x = .number s m p := hr
  have hi := (conv_finite x h).1
  have hc : conv x = FloatKind.f64.encode (.number s m p) := by unfold conv; rw [hr]; rfl
  have hi' : (FloatKind.f64.decode (FloatKind.f64.encode (.number s m p))).isInfinity = false := by rw [← hc]; exact hi
  simp [floatToFloatBits, h', hi', hc]

end Go.Proofs.YtclflnpbiiimiaaDoor
