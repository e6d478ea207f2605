/- The law's comparison of two waves holds a wave of finite cells equal to itself. Condition: 64 finite cells. -/
import Derived.Test.YtjmfffgddmnkmabDoorRefl
import Derived.Test.YtjmfffgddmnkmabDoorIn
import Derived.Deep.QuietTactic
import Derived.BigQuiet
namespace Go.Proofs.YtjmfffgddmnkmabDoor
open Go Go.RowKit

theorem conv_number (x : Nat) (h : fin x = true) : ∃ s m p, Ieee.double.read (conv x) = .number s m p := by
  obtain ⟨s, m, p, hr, hm, hp, hp'⟩ := fin_read x h
  unfold conv
  rw [hr]
  simp only [Ieee.Format.write]
  have key : ∀ r, r < 9218868437227405312 → ∃ s' m' p', Ieee.double.read (Ieee.double.word s r) = .number s' m' p' := by
    intro r hr'
    rw [read64 (Ieee.double.word s r), word_mod s r (by omega)]
    simp only [hr', if_true]
    split
    · exact ⟨_, _, _, rfl⟩
    · exact ⟨_, _, _, rfl⟩
  rcases Nat.eq_zero_or_pos m with h0 | h0
  · subst h0
    rw [conv_zero]
    exact key 0 (by omega)
  · obtain ⟨k, e, hn, hk, hk1, hk2, he1, he2, he, hl⟩ := near64 s m p h0 hm hp hp'
    rw [hn]
    exact key _ (by omega)

theorem own_conv (x : Nat) (h : fin x = true) : own (conv x) = true := by
  obtain ⟨s, m, p, hd⟩ := conv_number x h
  exact own_number _ s m p hd

theorem float_conv (x : Nat) (h : fin x = true) : floatToFloatBits .f32 x .f64 = some (conv x) := by
  obtain ⟨s, m, p, hr, _⟩ := fin_read x h
  have h' : FloatKind.f32.decode x = .number s m p := hr
  have hi := (conv_finite x h).1
  have hc : conv x = FloatKind.f64.encode (.number s m p) := by unfold conv; rw [hr]; rfl
  have hi' : (FloatKind.f64.decode (FloatKind.f64.encode (.number s m p))).isInfinity = false := by rw [← hc]; exact hi
  simp [floatToFloatBits, h', hi', hc]

theorem conv_complex (x y : Nat) (hx : fin x = true) (hy : fin y = true) (w : World) : (convert 22 89 (.complex .f32 x y)).run Tryd.prog w = .ok (.complex .f64 (conv x) (conv y)) w :=
  run_convert_complex w 22 89 .f32 .f64 x y _ _ (by rw [Tryd.underlying22]; rfl) Tryd.underlying89 (by simp [cConvBits, float_conv x hx, float_conv y hy])

set_option maxHeartbeats 400000 in
theorem eqCells (zs : Array Value) (hz : Cells zs) (w : World) : Calls Tryd.prog 24 #[.agg zs, .agg zs] w fun e w' => e = .returned (.bool true) ∧ Below w.heap.size w w' := by
  have HZ := Lib.hid hz
  clear hz
  go_enter Tryd.func24, Tryd.ntmps24
  go_wp2
  go_loopw [5] (fun i wr => ∃ k n : Nat, k ≤ 64 ∧ i = .int .i64 k ∧ Hid (wr = ((w.alloc (.cells zs 23)).alloc (.cells zs 23)).drewN n)) (fun i _ => 64 - (intOf i).toNat)
  case atStart => exact ⟨0, 0, by omega, rfl, Lib.hid rfl⟩
  case round =>
    obtain ⟨k, n, hk, rfl, HW⟩ := hrel
    by_cases hlt : k < 64
    · obtain ⟨x, y, hx, hy, hzk⟩ := HZ.out.2 k hlt
      have hc := conv_complex x y hx hy
      have ox := own_conv x hx
      have oy := own_conv y hy
      have c1 : wr.cell? ⟨w.heap.size, k, none⟩ = some (.complex .f32 x y) := by
        rw [HW.out, World.cell?_drewN, cell_of_row _ _ _ zs 23 (0, 0) (h2_0 _ _ _)]; exact hzk
      have c2 : wr.cell? ⟨w.heap.size + 1, k, none⟩ = some (.complex .f32 x y) := by
        rw [HW.out, World.cell?_drewN, cell_of_row _ _ _ zs 23 (0, 0) (h2_1 _ _ _)]; exact hzk
      generalize conv x = X at *
      generalize conv y = Y at *
      have HS := Lib.hid (sameComplex_refl X Y ox oy)
      clear hx hy ox oy hzk
      go_wp2_with fail
      go_quiet ((go_at_call 59; exact Calls.quiet_of_same ((HS.out _).mono fun e w' h => ⟨h.1, h.2.symm⟩)))
      go_wp2
      refine ⟨⟨k + 1, _, by omega, by go_num, Lib.hid (by rw [HW.out, World.drewN_drewN])⟩, by simp [intOf]; omega⟩
    · obtain rfl : k = 64 := by omega
      go_wp2
      go_ret
      refine ⟨rfl, ?_⟩
      rw [HW.out]
      exact below_drewN (((Below.refl _ _).alloc (Nat.le_refl _) _).alloc (by rw [size_al]; omega) _) _
end Go.Proofs.YtjmfffgddmnkmabDoor
