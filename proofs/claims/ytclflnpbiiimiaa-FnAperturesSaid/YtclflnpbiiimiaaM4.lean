/- The program's and the model's ways to ask whether a number is a side answer alike. Condition: none. The program's types of pictures. Condition: none. The model's way to ask whether something is a picture. Condition: 64 floats. -/
import Derived.Test.YtclflnpbiiimiaaM3
import Derived.Test.YtclflnpbiiimiaaMid
namespace Go.Proofs.Ytclflnpbiiimiaa
open Go Go.RowKit

/-- the powers of two up to 64 -/
def pow64 (n : Int) : Bool := n == 1 || n == 2 || n == 4 || n == 8 || n == 16 || n == 32 || n == 64
theorem and_prev : ∀ k : Fin 65, (bits .and .i64 (k.val : Int) ((k.val : Int) - 1) == 0) = (pow64 (k.val : Int) || (k.val : Int) == 0) := by decide +kernel
theorem pow64_not (n : Int) (h : n < 1 ∨ 64 < n) : pow64 n = false := by
  unfold pow64
  simp only [Bool.or_eq_false_iff, beq_eq_false_iff_ne]
  omega
theorem side_not (n : Int) (h : n < 1 ∨ 8 < n) : side n = false := by
  unfold side
  simp only [Bool.or_eq_false_iff, beq_eq_false_iff_ne]
  omega

theorem side_yes (n : Int) (h : side n = true) : n = 1 ∨ n = 2 ∨ n = 4 ∨ n = 8 := by
  unfold side at h
  simp only [Bool.or_eq_true, beq_iff_eq] at h
  omega
end Go.Proofs.Ytclflnpbiiimiaa

namespace Go.Proofs.Ytclflnpbiiimiaa
open Go Go.RowKit

end Go.Proofs.Ytclflnpbiiimiaa

namespace Go.Proofs.Ytclflnpbiiimiaa
open Go Go.RowKit

def bitsOf : Value → Nat
  | .float _ b => b
  | _ => 0
def bitsAt (zs : Array Value) (k : Nat) : Nat := bitsOf (zs.getD k undef)
def ltz (x : Nat) : Bool := FloatKind.f32.format.order x 0 == some .lt
def eqz (x : Nat) : Bool := FloatKind.f32.format.order x 0 == some .eq
/-- may the k-th level of a picture with n cells be these bits? -/
def okCell (n k x : Nat) : Bool := fin x && !ltz x && (decide (k < n) || eqz x)
/-- are the first k levels as they have to be? -/
def okTo (n : Nat) (zs : Array Value) : Nat → Bool
  | 0 => true
  | k + 1 => okTo n zs k && okCell n k (bitsAt zs k)
def shown (s : Int) (zs : Array Value) : Bool := side s && okTo (s * s).toNat zs 64

theorem bitsAt_of (zs : Array Value) (k x : Nat) (h : zs[k]? = some (.float .f32 x)) : bitsAt zs k = x := by
  unfold bitsAt
  rw [Array.getD_eq_getD_getElem?, h]
  rfl

theorem okTo_false (n : Nat) (zs : Array Value) (k m : Nat) (h : okTo n zs k = false) (hm : k ≤ m) : okTo n zs m = false := by
  induction m with
  | zero => obtain rfl : k = 0 := by omega
            exact h
  | succ m ih =>
    by_cases h1 : k = m + 1
    · subst h1; exact h
    · rw [okTo, ih (by omega)]; rfl

end Go.Proofs.Ytclflnpbiiimiaa
