/- The program's and the model's ways to ask whether a float32 is finite answer alike. Condition: none. -/
import Derived.Test.YteoaepnakmhgpabDoorMid
import Derived.Test.YteoaepnakmhgpabDoorFin
import Derived.Test.YteoaepnakmhgpabDoorRun
import Derived.Laws.FloatArith
import Derived.Deep.Draws
namespace Go.Proofs.YteoaepnakmhgpabDoor
open Go Go.RowKit

theorem abs_val (b : Nat) (h : b < 18446744073709551616) :
    (IntKind.u64.wrap ((BitVec.ofInt 64 (b : Int)) &&& ~~~ (BitVec.ofInt 64 9223372036854775808)).toNat).toNat = b % 9223372036854775808 := by
  have h1 : ~~~ (BitVec.ofInt 64 9223372036854775808) = BitVec.ofNat 64 9223372036854775807 := by decide
  have h2 : BitVec.ofInt 64 (b : Int) = BitVec.ofNat 64 b := BitVec.ofInt_natCast 64 b
  have h3 : b &&& 9223372036854775807 = b % 9223372036854775808 := Nat.and_two_pow_sub_one_eq_mod b 63
  rw [h1, h2, BitVec.toNat_and, BitVec.toNat_ofNat, BitVec.toNat_ofNat, show b % 2 ^ 64 = b from Nat.mod_eq_of_lt h, show 9223372036854775807 % 2 ^ 64 = 9223372036854775807 from rfl, h3, IntKind.wrap_u64]
  omega

/-- a float less itself, where it is none -/
theorem run_sub_inf (x : Nat) (h : fin x = false) (w : World) : (binOp .sub 52 (.float .f32 x) (.float .f32 x)).run Tryd.prog w = .ok (.float .f32 (nan32 (w.tape w.drawn (.nanBits .f32 x x)))) w.drew := by
  have h' : FloatKind.f32.format.sub x x = none := sub_inf x h
  have e : (binOp .sub 52 (.float .f32 x) (.float .f32 x)).run Tryd.prog w = ((choose (.nanBits .f32 x x)).run Tryd.prog w).andThen fun y w' => .ok (.float .f32 y) w' := by
    simp [binOp, Op.floatArith, h']
  rw [e, run_choose_drew]
  rfl

/-- a float32 that is none, as a float64 -/
theorem run_conv_nan (x : Nat) (s : Bool) (t : Nat) (h : Ieee.single.read x = .nan s t) (w : World) : (convert 52 64 (.float .f32 x)).run Tryd.prog w = .ok (.float .f64 (nan64 (w.tape w.drawn (.nanConv .f64 x)))) w.drew := by
  have h' : FloatKind.f32.decode x = .nan s t := h
  have e : (convert 52 64 (.float .f32 x)).run Tryd.prog w = ((choose (.nanConv .f64 x)).run Tryd.prog w).andThen fun y w' => .ok (.float .f64 y) w' := by
    simp [convert, run_underlying Tryd.underlying52, run_underlying Tryd.underlying64, Conv.floatToFloat, h']
  rw [e, run_choose_drew]
  rfl
theorem run_conv_inf (x : Nat) (s : Bool) (h : Ieee.single.read x = .infinity s) (w : World) : (convert 52 64 (.float .f32 x)).run Tryd.prog w = .ok (.float .f64 (Ieee.double.write (.infinity s))) w := by
  have h' : FloatKind.f32.decode x = .infinity s := h
  exact run_convert_float_float w 52 64 .f32 .f64 x _ (by rw [Tryd.underlying52]; rfl) Tryd.underlying64 (by simp [floatToFloatBits, h']; rfl)
theorem run_conv_fin (x : Nat) (h : fin x = true) (w : World) : (convert 52 64 (.float .f32 x)).run Tryd.prog w = .ok (.float .f64 (conv x)) w := by
  obtain ⟨s, m, p, hr, _⟩ := fin_read x h
  have h' : FloatKind.f32.decode x = .number s m p := hr
  have hi := (conv_finite x h).1
  have hc : conv x = FloatKind.f64.encode (.number s m p) := by unfold conv; rw [hr]; rfl
  have hi' : (FloatKind.f64.decode (FloatKind.f64.encode (.number s m p))).isInfinity = false := by rw [← hc]; exact hi
  exact run_convert_float_float w 52 64 .f32 .f64 x _ (by rw [Tryd.underlying52]; rfl) Tryd.underlying64 (by simp [floatToFloatBits, h', hi', hc])

/-- a side -/
def side (n : Int) : Bool := n == 1 || n == 2 || n == 4 || n == 8

end Go.Proofs.YteoaepnakmhgpabDoor
