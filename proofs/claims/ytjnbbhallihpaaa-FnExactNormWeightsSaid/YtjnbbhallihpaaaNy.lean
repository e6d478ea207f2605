/- The program's normed weights: the list and the code. Condition: as many numbers as a law lets in. -/
import Derived.Test.YtjnbbhallihpaaaNx
import Derived.Test.YtjnbbhallihpaaaHq
namespace Go.Proofs.Ytjnbbhallihpaaa
open Go Go.RowKit

theorem wt_nan (L : List Nat) (h : L.all fin = false) : wtCode L = 1 := by unfold wtCode; rw [if_pos h]
theorem wt_len (L : List Nat) (h : L.all fin = true) (h2 : ¬ (1 ≤ L.length ∧ L.length ≤ 16)) : wtCode L = 2 := by
  unfold wtCode; rw [if_neg (by rw [h]; decide), if_neg (fun h3 => h2 ⟨h3.1, h3.2.1⟩)]
theorem wt_neg (L : List Nat) (h : L.all fin = true) (j : Nat) (hj : j < L.length) (h2 : ltz (L.getD j 0) = true) : wtCode L = 2 := by
  have h3 : L.all posF = false := all_no j hj (by unfold posF; rw [h2]; simp)
  unfold wtCode; rw [if_neg (by rw [h]; decide), if_neg (fun h4 => by rw [h4.2.2] at h3; cases h3)]

set_option maxRecDepth 100000 in
set_option maxHeartbeats 1600000 in
theorem checkWeights_any (a : Option Addr) (n cap : Nat) (L : List Nat) (w : World) (h : CameF a n L w) (hn : n ≤ 1048576) :
    Calls Try.prog 52 #[.slice a n cap] w fun e w' => e = .returned (.int .i64 (wtCode L)) ∧ ∃ d, w' = w.drewN d := by
  have H1 := Lib.hid h
  have HL := Lib.hid h.1
  clear h
  go_enter Try.func52, Try.ntmps52
  go_wp2
  go_loopw [3, 8] (fun s i wr => ∃ (k : Nat) (c : Int), k ≤ n ∧ i = .int .i64 k ∧ s = .int .i64 c ∧ Hid (∀ j, j < k → fin (L.getD j 0) = true) ∧ Hid ((c = 0 ∧ ∀ j, j < k → ltz (L.getD j 0) = false) ∨ (c = 2 ∧ ∃ j, j < k ∧ ltz (L.getD j 0) = true)) ∧ Hid (∃ d, wr = w.drewN d)) (fun _ i _ => n - (intOf i).toNat)
  case atStart => exact ⟨0, 0, by omega, rfl, rfl, Lib.hid (fun j hj => by omega), Lib.hid (.inl ⟨rfl, fun j hj => by omega⟩), Lib.hid ⟨0, rfl⟩⟩
  case round =>
    obtain ⟨k, c, hk, rfl, rfl, HF, HC, HW⟩ := hrel
    by_cases hlt : k < n
    · have hdk : decide ((k : Int) < (n : Int)) = true := by simp; omega
      obtain ⟨b1, o1, rfl, hb1, hc1⟩ := H1.out.2 (by omega)
      have p1 : wr.cell? ⟨b1, o1 + k, none⟩ = some (.float .f32 (L.getD k 0)) := by obtain ⟨d, rfl⟩ := HW.out; rw [World.cell?_drewN]; exact hc1 k hlt
      clear hb1 hc1
      obtain ⟨x, hx⟩ : ∃ x, x = L.getD k 0 := ⟨_, rfl⟩
      rw [← hx] at p1
      have HX := Lib.hid hx
      clear hx
      go_wp2_with fail
      refine (finite_any x _).mono ?_
      rintro e w1 ⟨rfl, d, rfl⟩
      have HW2 : Hid (∃ d', wr.drewN d = w.drewN d') := by obtain ⟨d', hd⟩ := HW.out; exact Lib.hid ⟨_, by rw [hd, World.drewN_drewN]⟩
      generalize wr.drewN d = w1 at *
      cases hfx : fin x
      · have E1 := Lib.hid (wt_nan L (all_no k (by rw [HL.out]; exact hlt) (by rw [← HX.out]; exact hfx)))
        go_wp2_with fail
        go_ret
        exact ⟨by rw [E1.out]; rfl, HW2.out⟩
      · have HF2 : Hid (∀ j, j < k + 1 → fin (L.getD j 0) = true) := Lib.hid (fun j hj => by
          rcases Nat.lt_or_ge j k with h | h
          · exact HF.out j h
          · obtain rfl : j = k := by omega
            rw [← HX.out]; exact hfx)
        cases hz : ltz x
        · have hz' : (FloatKind.f32.format.order x 0 == some .lt) = false := hz
          have HC2 : Hid ((c = 0 ∧ ∀ j, j < k + 1 → ltz (L.getD j 0) = false) ∨ (c = 2 ∧ ∃ j, j < k + 1 ∧ ltz (L.getD j 0) = true)) := Lib.hid (by
            rcases HC.out with ⟨h1, h2⟩ | ⟨h1, j, h2, h3⟩
            · refine .inl ⟨h1, fun j hj => ?_⟩
              rcases Nat.lt_or_ge j k with h | h
              · exact h2 j h
              · obtain rfl : j = k := by omega
                rw [← HX.out]; exact hz
            · exact .inr ⟨h1, j, by omega, h3⟩)
          clear hz
          go_wp2_with fail
          exact ⟨⟨k + 1, c, by omega, by go_num, rfl, HF2, HC2, HW2⟩, by simp [intOf]; omega⟩
        · have hz' : (FloatKind.f32.format.order x 0 == some .lt) = true := hz
          have HQ : Hid (∃ j, j < k + 1 ∧ ltz (L.getD j 0) = true) := Lib.hid ⟨k, by omega, by rw [← HX.out]; exact hz⟩
          clear hz
          go_wp2_with fail
          exact ⟨⟨k + 1, 2, by omega, by go_num, rfl, HF2, Lib.hid (.inr ⟨rfl, HQ.out⟩), HW2⟩, by simp [intOf]; omega⟩
    · obtain rfl : k = n := by omega
      have hA := all_yes (f := fin) (L := L) (fun i hi => HF.out i (by rw [HL.out] at hi; exact hi))
      have HA := Lib.hid hA
      clear HF hA
      go_wp2_with fail
      refine (between_b 1 k 16 _).mono ?_
      rintro e w1 ⟨rfl, rfl⟩
      by_cases hb : 1 ≤ k ∧ k ≤ 16
      · have g1 : (decide ((1 : Int) ≤ (k : Int)) && decide ((k : Int) ≤ 16)) = true := by simp; omega
        have E1 : Hid (wtCode L = c) := Lib.hid (by
          rcases HC.out with ⟨h1, h2⟩ | ⟨h1, j, h2, h3⟩
          · rw [h1]
            refine wt_yes L HA.out (by rw [HL.out]; exact hb.1) (by rw [HL.out]; exact hb.2) (all_yes (fun i hi => ?_))
            unfold posF
            rw [all_at HA.out i hi, h2 i (by rw [HL.out] at hi; exact hi)]
            rfl
          · rw [h1]; exact wt_neg L HA.out j (by rw [HL.out]; exact h2) h3)
        rw [g1]
        go_wp2_with fail
        go_ret
        exact ⟨by rw [E1.out]; rfl, HW.out⟩
      · have g1 : (decide ((1 : Int) ≤ (k : Int)) && decide ((k : Int) ≤ 16)) = false := by simp; omega
        have E1 : Hid (wtCode L = 2) := Lib.hid (wt_len L HA.out (by rw [HL.out]; exact hb))
        rw [g1]
        go_wp2_with fail
        go_ret
        exact ⟨by rw [E1.out]; rfl, HW.out⟩

set_option maxRecDepth 100000 in
theorem quotientOf_zero (x y : Nat) (hz : eqz y = true) (w : World) : Calls Try.prog 53 #[.float .f32 x, .float .f32 y] w fun e w' => e = .returned (.tuple #[.float .f32 0, .int .i64 5]) ∧ ∃ d, w' = w.drewN d := by
  have hz' : (FloatKind.f32.format.order y 0 == some .eq) = true := hz
  clear hz
  go_enter Try.func53, Try.ntmps53
  go_wp2_with fail
  go_ret2
  exact ⟨rfl, 0, rfl⟩

set_option maxRecDepth 100000 in
theorem quotientOf_lim (x y : Nat) (hz : eqz y = false) (hf : fin y = false) (w : World) : Calls Try.prog 53 #[.float .f32 x, .float .f32 y] w fun e w' => e = .returned (.tuple #[.float .f32 0, .int .i64 3]) ∧ ∃ d, w' = w.drewN d := by
  have hz' : (FloatKind.f32.format.order y 0 == some .eq) = false := hz
  have HF := Lib.hid (finite_any y)
  rw [hf] at HF
  clear hz hf
  go_enter Try.func53, Try.ntmps53
  go_wp2_with fail
  refine (HF.out _).mono ?_
  rintro e w' ⟨rfl, d, rfl⟩
  go_wp2_with fail
  go_ret2
  exact ⟨rfl, _, rfl⟩

set_option maxRecDepth 100000 in
theorem quotientOf_yes (x y r : Nat) (hz : eqz y = false) (hf : fin y = true) (hd : Ieee.single.div x y = some r) (hr : fin r = true) (w : World) : Calls Try.prog 53 #[.float .f32 x, .float .f32 y] w fun e w' => e = .returned (.tuple #[.float .f32 r, .int .i64 0]) ∧ ∃ d, w' = w.drewN d := by
  have hz' : (FloatKind.f32.format.order y 0 == some .eq) = false := hz
  have h1 := fun w => run_float_arith (P := Try.prog) w .quo 73 .f32 x y r hd
  have HF := Lib.hid (finite_any y)
  have HR := Lib.hid (finite_any r)
  rw [hf] at HF
  rw [hr] at HR
  clear hz hf hd hr
  go_enter Try.func53, Try.ntmps53
  go_wp2_with fail
  refine (HF.out _).mono ?_
  rintro e w1 ⟨rfl, d, rfl⟩
  go_wp2_with fail
  refine (HR.out _).mono ?_
  rintro e w1 ⟨rfl, d', rfl⟩
  go_wp2_with fail
  go_ret2
  exact ⟨rfl, _, rfl⟩
end Go.Proofs.Ytjnbbhallihpaaa
