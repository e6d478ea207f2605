/- The program's and the model's ways to ask whether a float32 is finite answer alike. Condition: none. -/
import Derived.Test.YtfpedldomoifcaaMid
import Derived.Test.YtfpedldomoifcaaFin
import Derived.Test.YtfpedldomoifcaaRun
import Derived.Laws.FloatArith
import Derived.Deep.Draws
namespace Go.Proofs.Ytfpedldomoifcaa
open Go Go.RowKit

theorem abs_val (b : Nat) (h : b < 18446744073709551616) :
    (IntKind.u64.wrap ((BitVec.ofInt 64 (b : Int)) &&& ~~~ (BitVec.ofInt 64 9223372036854775808)).toNat).toNat = b % 9223372036854775808 := by
  have h1 : ~~~ (BitVec.ofInt 64 9223372036854775808) = BitVec.ofNat 64 9223372036854775807 := by decide
  have h2 : BitVec.ofInt 64 (b : Int) = BitVec.ofNat 64 b := BitVec.ofInt_natCast 64 b
  have h3 : b &&& 9223372036854775807 = b % 9223372036854775808 := Nat.and_two_pow_sub_one_eq_mod b 63
  rw [h1, h2, BitVec.toNat_and, BitVec.toNat_ofNat, BitVec.toNat_ofNat, show b % 2 ^ 64 = b from Nat.mod_eq_of_lt h, show 9223372036854775807 % 2 ^ 64 = 9223372036854775807 from rfl, h3, IntKind.wrap_u64]
  omega

/-- a side -/
def side (n : Int) : Bool := n == 1 || n == 2 || n == 4 || n == 8

end Go.Proofs.Ytfpedldomoifcaa
