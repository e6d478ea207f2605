/- The law's copy of 64 floats hands back the same 64 floats and leaves all older memory alone. Condition: 64 floats. -/
import Derived.Test.YtjmfffgddmnkmabDoorM2
namespace Go.Proofs.YtjmfffgddmnkmabDoor
open Go Go.RowKit

set_option maxHeartbeats 400000 in
theorem copy_any (zs : Array Value) (hz : Floats zs) (w : World) : Calls Tryd.prog 28 #[.agg zs] w fun e w' => e = .returned (.agg zs) ∧ Below w.heap.size w w' := by
  have HZ := Lib.hid hz
  clear hz
  go_enter Tryd.func28, Tryd.ntmps28
  go_wp2
  go_loopw [4] (fun i wr => ∃ (k : Nat) (Z C : Array Value), k ≤ 64 ∧ i = .int .i64 k ∧ Hid (Z = zero64) ∧ Hid (C = cpy zs k) ∧ wr = ((w.alloc (.cells zs 31)).alloc (.cells Z 31)).alloc (.cells C 31)) (fun i _ => 64 - (intOf i).toNat)
  case atStart => exact ⟨0, zero64, zero64, by omega, rfl, Lib.hid rfl, Lib.hid (cpy_zero zs).symm, rfl⟩
  case round =>
    obtain ⟨k, Z, C, hk, rfl, HZZ, HC, rfl⟩ := hrel
    by_cases hlt : k < 64
    · obtain ⟨x, hx, hzk⟩ := HZ.out.2 k hlt
      have hC : C[k]? = some (if k < k then zs.getD k undef else .float .f32 0) := by rw [HC.out, cpy_get, if_pos hlt]
      rw [if_neg (by omega)] at hC
      have HS := Lib.hid hzk
      go_wp2
      refine ⟨⟨k + 1, Z, _, by omega, by go_num, HZZ, Lib.hid ?_, rfl⟩, by simp [intOf]; omega⟩
      rw [HC.out]
      exact cpy_succ zs k hlt _ HS.out
    · obtain rfl : k = 64 := by omega
      have HC' : Hid (C = zs) := Lib.hid (by rw [HC.out]; exact cpy_all zs HZ.out)
      have hCz : C = zs := HC'.out
      subst hCz
      have hs : C.size = 64 := HZ.out.1
      have hi : (Tryd.prog.info? 31).map (·.size) = some C.size := by rw [hs]; kernel_rfl
      have hi' := Lib.hid hi
      have hZs : Z.size = C.size := by rw [HZZ.out, hs]; simp [zero64]
      have HZs := Lib.hid hZs
      clear hs hi hZs HC HC'
      go_wp2_with (first | (refine wpList_load_row rfl 31 (.tmp 3) rfl (w.heap.size + 1 + 1) rfl 31 C (0, 0) _ (h3_2 _ _ _ _) Tryd.underlying31 rfl hi'.out ?_) | (refine wpList_store_row rfl 31 (.tmp 2) (.tmp 14) rfl (w.heap.size + 1) C rfl rfl 31 Z (h3_1 _ _ _ _) hi'.out HZs.out (floats_one C HZ.out) ?_))
      refine bodyPost_ret (v := .agg C) (results_cell_row (fn := Tryd.f28) (p := 2) (ty := 31) rfl _ _ (w.heap.size + 1) 31 C (0, 0) _ rfl (setRow_heap _ _ _ _ _ _ (h3_1 _ _ _ _)) Tryd.underlying31 rfl hi'.out) rfl ⟨rfl, ?_⟩
      exact below_setRow ((((Below.refl _ _).alloc (Nat.le_refl _) _).alloc (by rw [size_al]; omega) _).alloc (by rw [size_al, size_al]; omega) _) (by omega) _
end Go.Proofs.YtjmfffgddmnkmabDoor
