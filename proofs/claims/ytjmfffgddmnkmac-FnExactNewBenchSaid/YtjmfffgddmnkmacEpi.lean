/- The law's comparison of two pictures holds one whose levels are numbers equal to itself. Condition: 64 numbers. -/
import Derived.Test.YtjmfffgddmnkmacQh
import Derived.Test.YtjmfffgddmnkmacRefl
import Derived.Test.YtjmfffgddmnkmacHeap
import Derived.Test.YtjmfffgddmnkmacMid
import Derived.Test.YtjmfffgddmnkmacLawP
import Derived.Deep.QuietTactic
import Derived.BigQuiet
namespace Go.Proofs.Ytjmfffgddmnkmac
open Go Go.RowKit

/-- 64 floats, none a NaN -/
def Nums (zs : Array Value) : Prop := zs.size = 64 ∧ ∀ k, k < 64 → ∃ x, NotNan x ∧ zs[k]? = some (.float .f32 x)

set_option maxHeartbeats 400000 in
theorem eqFloats64 (zs : Array Value) (hz : Nums zs) (w : World) : Calls Try.prog 79 #[.agg zs, .agg zs] w fun e w' => e = .returned (.bool true) ∧ Below w.heap.size w w' := by
  have HZ := Lib.hid hz
  clear hz
  go_enter Try.func79, Try.ntmps79
  go_wp2
  go_loopw [5] (fun i wr => ∃ k n : Nat, k ≤ 64 ∧ i = .int .i64 k ∧ Hid (wr = ((w.alloc (.cells zs 47)).alloc (.cells zs 47)).drewN n)) (fun i _ => 64 - (intOf i).toNat)
  case atStart => exact ⟨0, 0, by omega, rfl, Lib.hid rfl⟩
  case round =>
    obtain ⟨k, n, hk, rfl, HW⟩ := hrel
    by_cases hlt : k < 64
    · obtain ⟨x, hx, hzk⟩ := HZ.out.2 k hlt
      obtain ⟨c, hc, hown⟩ := conv_notnan x hx
      have hcv := fun w => run_convert_float_float (P := Try.prog) w 46 103 .f32 .f64 x c (by rw [Try.underlying46]; rfl) Try.underlying103 hc
      have c1 : wr.cell? ⟨w.heap.size, k, none⟩ = some (.float .f32 x) := by
        rw [HW.out, World.cell?_drewN, cell_of_row _ _ _ zs 47 (0, 0) (h2_0 _ _ _)]; exact hzk
      have c2 : wr.cell? ⟨w.heap.size + 1, k, none⟩ = some (.float .f32 x) := by
        rw [HW.out, World.cell?_drewN, cell_of_row _ _ _ zs 47 (0, 0) (h2_1 _ _ _)]; exact hzk
      have HS := Lib.hid (sameFloat_refl c hown)
      clear hx hc hown hzk
      go_wp2_with fail
      go_quiet ((go_at_call 87; exact Calls.quiet_of_same ((HS.out _).mono fun e w' h => ⟨h.1, h.2.symm⟩)))
      go_wp2
      refine ⟨⟨k + 1, _, by omega, by go_num, Lib.hid (by rw [HW.out, World.drewN_drewN])⟩, by simp [intOf]; omega⟩
    · obtain rfl : k = 64 := by omega
      go_wp2
      go_ret
      refine ⟨rfl, ?_⟩
      rw [HW.out]
      exact below_drewN (((Below.refl _ _).alloc (Nat.le_refl _) _).alloc (by rw [size_al]; omega) _) _

set_option maxRecDepth 100000 in
set_option maxHeartbeats 400000 in
theorem eqPic_refl (n : Int) (zs : Array Value) (hz : Nums zs) (w : World) : Calls Try.prog 65 #[.agg (pic n zs), .agg (pic n zs)] w fun e w' => e = .returned (.bool true) ∧ Below w.heap.size w w' := by
  have h0 := pic_zero n zs
  have HP := Lib.hid (pic_part n zs)
  have HS : Hid ((Try.prog.info? 47).map (·.size) = some zs.size) := Lib.hid (by rw [hz.1]; exact size28)
  have HE := Lib.hid (eqFloats64 zs hz)
  have hnn : (n != n) = false := by simp
  generalize pic n zs = cs at *
  clear hz
  go_enter Try.func65, Try.ntmps65
  go_wp2_with (first | fail | (refine wpList_load_part rfl 47 (.tmp 10) rfl w.heap.size 1 rfl zs _ 49 cs (0, 0) (h2_0 _ _ _) HP.out Try.underlying47 rfl HS.out ?_) | (refine wpList_load_part rfl 47 (.tmp 12) rfl (w.heap.size + 1) 1 rfl zs _ 49 cs (0, 0) (h2_1 _ _ _) HP.out Try.underlying47 rfl HS.out ?_))
  refine (HE.out _).mono ?_
  rintro e w1 ⟨rfl, b1⟩
  have B1 := Lib.hid b1
  clear b1
  go_wp2
  go_ret
  refine ⟨rfl, ((((Below.refl _ _).alloc (Nat.le_refl _) _).alloc (by rw [size_al]; omega) _).trans (B1.out.mono ?_))⟩
  rw [size_al, size_al]; omega

end Go.Proofs.Ytjmfffgddmnkmac
