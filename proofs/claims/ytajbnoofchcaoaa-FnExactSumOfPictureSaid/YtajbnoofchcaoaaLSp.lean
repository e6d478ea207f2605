/- What the law of SumOfPicture does: it returns true where program and model answer one number and one code. Condition: these answers; 64 floats. -/
import Derived.Test.YtajbnoofchcaoaaKp
import Derived.Test.YtajbnoofchcaoaaPic
namespace Go.Proofs.Ytajbnoofchcaoaa
open Go Go.RowKit

theorem spV_num (s : Int) (zs : Array Value) (k : Int) : NotNan (spV s zs k) := by
  have h0 : NotNan 0 := notnan_fin 0 (by decide)
  unfold spV
  split
  · exact h0
  · split
    · exact h0
    · cases h : spAcc s zs k with
      | none => exact h0
      | some x => exact notnan_fin x (acc_fin h)

set_option maxRecDepth 100000 in
set_option maxHeartbeats 1000000 in
theorem lawSumOfPicture_of (s : Int) (zs : Array Value) (hz : Floats zs) (n : Int) (r : Nat) (k : Int) (hr : NotNan r) (w : World)
    (HS : Hid (FloatC 37 s zs n r k)) (HI : Hid (FloatC 39 s zs n r k)) :
    Calls Try.prog 12 #[.agg (pic s zs), .int .i64 n] w fun e w' => e = .returned (.bool true) ∧ Below w.heap.size w w' := by
  have HSP : Hid ((Try.prog.info? 46).map (·.size) = some (pic s zs).size) := Lib.hid (by rw [pic_size s zs hz.1]; kernel_rfl)
  have HA := Lib.hid (toPic_any s zs hz)
  unfold FloatC at HS HI
  obtain ⟨c, hc, hown⟩ := conv_notnan _ hr
  have hcv := fun w => run_convert_float_float (P := Try.prog) w 43 52 .f32 .f64 _ c (by rw [Try.underlying43]; rfl) Try.underlying52 hc
  have HO := Lib.hid hown
  clear hc hown hz hr
  generalize pic s zs = cs at *
  have hkk : (k != k) = false := by simp
  go_enter Try.func12, Try.ntmps12
  go_wp2_with (first | fail | (refine wpList_load_row rfl 46 (.tmp 2) rfl w.heap.size rfl 46 cs (0, 0) _ (h1_0 _ _) Try.underlying46 rfl HSP.out ?_))
  refine (HA.out _).mono ?_
  rintro e w1 ⟨rfl, b1⟩
  have P1 : Hid (w1.heap[w.heap.size]? = some (.cells cs 46 (0, 0))) := Lib.hid (by rw [b1.block _ (by rw [size_al]; omega)]; exact h1_0 _ _)
  have B1 : Hid (Below w.heap.size w w1) := Lib.hid (((Below.refl w.heap.size w).alloc (Nat.le_refl _) _).trans (b1.mono (by rw [size_al]; omega)))
  clear b1
  go_wp2_with fail
  refine (HS.out _).mono ?_
  rintro e w2 ⟨rfl, b2⟩
  have P2 : Hid (w2.heap[w.heap.size]? = some (.cells cs 46 (0, 0))) := Lib.hid (by rw [b2.block _ (Array.getElem?_eq_some_iff.1 P1.out).1]; exact P1.out)
  have B2 : Hid (Below w.heap.size w w2) := Lib.hid (B1.out.trans (b2.mono B1.out.size))
  clear b2 P1 B1
  go_wp2_with (first | fail | (refine wpList_load_row rfl 46 (.tmp 2) rfl w.heap.size rfl 46 cs (0, 0) _ P2.out Try.underlying46 rfl HSP.out ?_))
  refine (HA.out _).mono ?_
  rintro e w3 ⟨rfl, b3⟩
  have B3 : Hid (Below w.heap.size w w3) := Lib.hid (B2.out.trans (b3.mono B2.out.size))
  clear b3 P2 B2
  go_wp2_with fail
  refine (HI.out _).mono ?_
  rintro e w4 ⟨rfl, b4⟩
  have B4 : Hid (Below w.heap.size w w4) := Lib.hid (B3.out.trans (b4.mono B3.out.size))
  clear b4 B3
  go_wp2_with fail
  refine (sameFloat_refl c HO.out _).mono ?_
  rintro e w' ⟨rfl, rfl⟩
  go_wp2
  go_ret
  exact ⟨rfl, B4.out⟩

end Go.Proofs.Ytajbnoofchcaoaa
