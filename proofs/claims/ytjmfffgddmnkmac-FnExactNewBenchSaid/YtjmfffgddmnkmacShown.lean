/- The model's way to ask whether something is a picture. Condition: 64 floats. -/
import Derived.Test.YtjmfffgddmnkmacSide
import Derived.Test.YtjmfffgddmnkmacPicI
namespace Go.Proofs.Ytjmfffgddmnkmac
open Go Go.RowKit

def bitsOf : Value → Nat
  | .float _ b => b
  | _ => 0
def bitsAt (zs : Array Value) (k : Nat) : Nat := bitsOf (zs.getD k undef)
def ltz (x : Nat) : Bool := FloatKind.f32.format.order x 0 == some .lt
def eqz (x : Nat) : Bool := FloatKind.f32.format.order x 0 == some .eq
/-- may the k-th level of a picture with n cells be these bits? -/
def okCell (n k x : Nat) : Bool := fin x && !ltz x && (decide (k < n) || eqz x)
/-- are the first k levels as they have to be? -/
def okTo (n : Nat) (zs : Array Value) : Nat → Bool
  | 0 => true
  | k + 1 => okTo n zs k && okCell n k (bitsAt zs k)
def shown (s : Int) (zs : Array Value) : Bool := side s && okTo (s * s).toNat zs 64

theorem bitsAt_of (zs : Array Value) (k x : Nat) (h : zs[k]? = some (.float .f32 x)) : bitsAt zs k = x := by
  unfold bitsAt
  rw [Array.getD_eq_getD_getElem?, h]
  rfl

theorem okTo_false (n : Nat) (zs : Array Value) (k m : Nat) (h : okTo n zs k = false) (hm : k ≤ m) : okTo n zs m = false := by
  induction m with
  | zero => obtain rfl : k = 0 := by omega
            exact h
  | succ m ih =>
    by_cases h1 : k = m + 1
    · subst h1; exact h
    · rw [okTo, ih (by omega)]; rfl

end Go.Proofs.Ytjmfffgddmnkmac
