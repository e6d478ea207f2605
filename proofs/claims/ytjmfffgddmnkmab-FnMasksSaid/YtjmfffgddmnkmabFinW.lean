/- The program's and the model's ways to ask whether a float32 is finite answer alike. Condition: none. -/
import Derived.Test.YtjmfffgddmnkmabMid
import Derived.Test.YtjmfffgddmnkmabFin
import Derived.Test.YtjmfffgddmnkmabRun
import Derived.Laws.FloatArith
import Derived.Deep.Draws
namespace Go.Proofs.Ytjmfffgddmnkmab
open Go Go.RowKit

theorem abs_run (b : Nat) (w : World) : Calls Try.prog 131 #[.float .f64 b] w fun e w' => e = .returned (.float .f64 ((IntKind.u64.wrap ((BitVec.ofInt 64 (b : Int)) &&& ~~~ (BitVec.ofInt 64 9223372036854775808)).toNat).toNat)) ∧ w = w' :=
  calls_of (fun _ => false) (known_none _) 99 (fun cs => by kernel_rfl)

theorem abs_val (b : Nat) (h : b < 18446744073709551616) :
    (IntKind.u64.wrap ((BitVec.ofInt 64 (b : Int)) &&& ~~~ (BitVec.ofInt 64 9223372036854775808)).toNat).toNat = b % 9223372036854775808 := by
  have h1 : ~~~ (BitVec.ofInt 64 9223372036854775808) = BitVec.ofNat 64 9223372036854775807 := by decide
  have h2 : BitVec.ofInt 64 (b : Int) = BitVec.ofNat 64 b := BitVec.ofInt_natCast 64 b
  have h3 : b &&& 9223372036854775807 = b % 9223372036854775808 := Nat.and_two_pow_sub_one_eq_mod b 63
  rw [h1, h2, BitVec.toNat_and, BitVec.toNat_ofNat, BitVec.toNat_ofNat, show b % 2 ^ 64 = b from Nat.mod_eq_of_lt h, show 9223372036854775807 % 2 ^ 64 = 9223372036854775807 from rfl, h3, IntKind.wrap_u64]
  omega

theorem abs_any (b : Nat) (h : b < 18446744073709551616) (w : World) : Calls Try.prog 131 #[.float .f64 b] w fun e w' => e = .returned (.float .f64 (b % 9223372036854775808)) ∧ w = w' := by
  have := abs_run b w
  rwa [abs_val b h] at this

/-- a float less itself, where it is none -/
theorem run_sub_inf (x : Nat) (h : fin x = false) (w : World) : (binOp .sub 45 (.float .f32 x) (.float .f32 x)).run Try.prog w = .ok (.float .f32 (nan32 (w.tape w.drawn (.nanBits .f32 x x)))) w.drew := by
  have h' : FloatKind.f32.format.sub x x = none := sub_inf x h
  have e : (binOp .sub 45 (.float .f32 x) (.float .f32 x)).run Try.prog w = ((choose (.nanBits .f32 x x)).run Try.prog w).andThen fun y w' => .ok (.float .f32 y) w' := by
    simp [binOp, Op.floatArith, h']
  rw [e, run_choose_drew]
  rfl

/-- a float32 that is none, as a float64 -/
theorem run_conv_nan (x : Nat) (s : Bool) (t : Nat) (h : Ieee.single.read x = .nan s t) (w : World) : (convert 45 120 (.float .f32 x)).run Try.prog w = .ok (.float .f64 (nan64 (w.tape w.drawn (.nanConv .f64 x)))) w.drew := by
  have h' : FloatKind.f32.decode x = .nan s t := h
  have e : (convert 45 120 (.float .f32 x)).run Try.prog w = ((choose (.nanConv .f64 x)).run Try.prog w).andThen fun y w' => .ok (.float .f64 y) w' := by
    simp [convert, run_underlying Try.underlying45, run_underlying Try.underlying120, Conv.floatToFloat, h']
  rw [e, run_choose_drew]
  rfl
theorem run_conv_inf (x : Nat) (s : Bool) (h : Ieee.single.read x = .infinity s) (w : World) : (convert 45 120 (.float .f32 x)).run Try.prog w = .ok (.float .f64 (Ieee.double.write (.infinity s))) w := by
  have h' : FloatKind.f32.decode x = .infinity s := h
  exact run_convert_float_float w 45 120 .f32 .f64 x _ (by rw [Try.underlying45]; rfl) Try.underlying120 (by simp [floatToFloatBits, h']; rfl)
theorem run_conv_fin (x : Nat) (h : fin x = true) (w : World) : (convert 45 120 (.float .f32 x)).run Try.prog w = .ok (.float .f64 (conv x)) w := by
  obtain ⟨s, m, p, hr, _⟩ := fin_read x h
  have h' : FloatKind.f32.decode x = .number s m p := hr
  have hi := (conv_finite x h).1
  have hc : conv x = FloatKind.f64.encode (.number s m p) := by unfold conv; rw [hr]; rfl
  have hi' : (FloatKind.f64.decode (FloatKind.f64.encode (.number s m p))).isInfinity = false := by rw [← hc]; exact hi
  exact run_convert_float_float w 45 120 .f32 .f64 x _ (by rw [Try.underlying45]; rfl) Try.underlying120 (by simp [floatToFloatBits, h', hi', hc])

theorem fine_yes (x : Nat) (h : fin x = true) (w : World) : Calls Try.prog 105 #[.float .f32 x] w fun e w' => e = .returned (.bool true) ∧ ∃ n, w' = w.drewN n := by
  have h1 := fun w => run_float_arith (P := Try.prog) w .sub 45 .f32 x x 0 (sub_fin x h)
  have h2 : (FloatKind.f32.format.order 0 0 == some .eq) = true := by decide
  clear h
  go_enter Try.func105, Try.ntmps105
  go_wp2
  go_ret
  exact ⟨rfl, 0, rfl⟩

theorem fine_no (x : Nat) (h : fin x = false) (w : World) : Calls Try.prog 105 #[.float .f32 x] w fun e w' => e = .returned (.bool false) ∧ ∃ n, w' = w.drewN n := by
  have h1 := run_sub_inf x h w
  obtain ⟨y, hy⟩ : ∃ y, y = nan32 (w.tape w.drawn (.nanBits .f32 x x)) := ⟨_, rfl⟩
  have h2 : (FloatKind.f32.format.order y 0 == some .eq) = false := by
    rw [hy]
    rw [show FloatKind.f32.format.order (nan32 (w.tape w.drawn (.nanBits .f32 x x))) 0 = none from order_nan32 _ _]
    rfl
  rw [← hy] at h1
  clear h hy
  go_enter Try.func105, Try.ntmps105
  go_wp2
  go_ret
  exact ⟨rfl, 1, rfl⟩

theorem fine_any (x : Nat) (w : World) : Calls Try.prog 105 #[.float .f32 x] w fun e w' => e = .returned (.bool (fin x)) ∧ ∃ n, w' = w.drewN n := by
  cases h : fin x
  · exact fine_no x h w
  · exact fine_yes x h w

theorem finite_yes (x : Nat) (h : fin x = true) (w : World) : Calls Try.prog 101 #[.float .f32 x] w fun e w' => e = .returned (.bool true) ∧ ∃ n, w' = w.drewN n := by
  have h1 := run_conv_fin x h
  have h2 := max_fin x h
  have h3 := Lib.hid (abs_any (conv x) (conv_finite x h).2)
  generalize conv x = y at *
  have h2' : (FloatKind.f64.format.order (y % 9223372036854775808) 5183643170566569984 == some .lt || FloatKind.f64.format.order (y % 9223372036854775808) 5183643170566569984 == some .eq) = true := h2
  obtain ⟨z, hz⟩ : ∃ z, z = y % 9223372036854775808 := ⟨_, rfl⟩
  rw [← hz] at h2' h3
  clear h2 hz h
  go_enter Try.func101, Try.ntmps101
  go_wp2_with (go_at_call 131; refine (h3.out _).mono ?_; rintro e w' ⟨rfl, rfl⟩)
  go_ret
  exact ⟨rfl, 0, rfl⟩

theorem finite_no (x : Nat) (h : fin x = false) (w : World) : Calls Try.prog 101 #[.float .f32 x] w fun e w' => e = .returned (.bool false) ∧ ∃ n, w' = w.drewN n := by
  rcases inf_read x h with ⟨s, hs⟩ | ⟨s, t, hs⟩
  · have h1 := run_conv_inf x s hs
    have h2 := max_inf s
    have h3 := Lib.hid (abs_any (Ieee.double.write (.infinity s)) (by cases s <;> decide))
    generalize Ieee.double.write (.infinity s) = y at *
    obtain ⟨z, hz⟩ : ∃ z, z = y % 9223372036854775808 := ⟨_, rfl⟩
    rw [← hz] at h2 h3
    have h2' : (FloatKind.f64.format.order z 5183643170566569984 == some .lt || FloatKind.f64.format.order z 5183643170566569984 == some .eq) = false := h2
    clear h2 hz h hs
    go_enter Try.func101, Try.ntmps101
    go_wp2_with (go_at_call 131; refine (h3.out _).mono ?_; rintro e w' ⟨rfl, rfl⟩)
    go_ret
    exact ⟨rfl, 0, rfl⟩
  · have h1 := run_conv_nan x s t hs w
    obtain ⟨q, hq⟩ : ∃ q, q = w.tape w.drawn (.nanConv .f64 x) := ⟨_, rfl⟩
    rw [← hq] at h1
    have h2 : (FloatKind.f64.format.order (nan64 q % 9223372036854775808) 5183643170566569984 == some .lt || FloatKind.f64.format.order (nan64 q % 9223372036854775808) 5183643170566569984 == some .eq) = false := by
      rw [show FloatKind.f64.format.order (nan64 q % 9223372036854775808) 5183643170566569984 = none from order_nan64 _ _]
      rfl
    have h3 := Lib.hid (abs_any (nan64 q) (nan64_mod q).2)
    obtain ⟨z, hz⟩ : ∃ z, z = nan64 q % 9223372036854775808 := ⟨_, rfl⟩
    rw [← hz] at h2 h3
    clear hz hq h hs
    generalize nan64 q = y at *
    go_enter Try.func101, Try.ntmps101
    go_wp2_with (go_at_call 131; refine (h3.out _).mono ?_; rintro e w' ⟨rfl, rfl⟩)
    go_ret
    exact ⟨rfl, 1, rfl⟩

theorem finite_any (x : Nat) (w : World) : Calls Try.prog 101 #[.float .f32 x] w fun e w' => e = .returned (.bool (fin x)) ∧ ∃ n, w' = w.drewN n := by
  cases h : fin x
  · exact finite_no x h w
  · exact finite_yes x h w

/-- a side -/
def side (n : Int) : Bool := n == 1 || n == 2 || n == 4 || n == 8

end Go.Proofs.Ytjmfffgddmnkmab
