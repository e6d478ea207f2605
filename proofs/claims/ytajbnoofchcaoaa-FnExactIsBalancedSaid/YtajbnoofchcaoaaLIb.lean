/- What the law of IsBalanced does: it returns true where program and model answer alike. Condition: these answers. -/
import Derived.Test.YtajbnoofchcaoaaKm
import Derived.Lib.Hide
namespace Go.Proofs.Ytajbnoofchcaoaa
open Go Go.RowKit

set_option maxRecDepth 100000 in
set_option maxHeartbeats 3200000 in
theorem lawIsBalanced_of (ad0 : Option Addr) (n0 c0 : Nat) (A0 : List Nat) (b : Bool) (c : Int) (w : World) (hA0 : CameF ad0 n0 A0 w)
    (HS : Hid (BoolF 32 A0 b c)) (HI : Hid (BoolF 33 A0 b c)) :
    Calls Try.prog 10 #[.slice ad0 n0 c0] w fun e w' => e = .returned (.bool true) ∧ Below w.heap.size w w' := by
  by_cases hbig0 : 1048576 < n0
  · go_enter Try.func10, Try.ntmps10
    go_wp2_with fail
    go_ret
    exact ⟨rfl, Below.refl _ _⟩
  have hn0 : n0 ≤ 1048576 := by omega
  have HA0 := Lib.hid hA0
  have HN0 := Lib.hid hn0
  have HL0 := Lib.hid hA0.1
  have hcc : (c != c) = false := by simp
  have hbb : (b != b) = false := by simp
  clear hA0
  have BB : Hid (Below w.heap.size w w) := Lib.hid (Below.refl _ _)
  go_enter Try.func10, Try.ntmps10
  go_wp2_with fail
  refine (toF_any ad0 n0 c0 A0 _ (HA0.out.below BB.out (Nat.le_refl _)) HN0.out).mono ?_
  rintro e w1 ⟨v, rfl, o, k⟩
  obtain ⟨ap0, cp0, rfl, _⟩ := o.came
  have Zt := Lib.hid (BB.out.trans (k.mono BB.out.size))
  clear BB
  have BB := Zt
  clear Zt
  have S0 := Lib.hid k.size
  have Op0 := Lib.hid o
  have Np0 := Lib.hid o.rng
  clear o k
  go_wp2_with fail
  refine (HS.out (by rw [HL0.out]; exact HN0.out) _ _ (Op0.out.mono (Nat.zero_le _))).mono ?_
  rintro e w2 ⟨rfl, k⟩
  have Zt := Lib.hid (Op0.out.below k (Nat.le_refl _))
  clear Op0
  have Op0 := Zt
  clear Zt
  have Zt := Lib.hid (BB.out.trans (k.mono BB.out.size))
  clear BB
  have BB := Zt
  clear Zt
  have S1 := Lib.hid k.size
  clear k
  go_wp2_with fail
  refine (toF_any ad0 n0 c0 A0 _ (HA0.out.below BB.out (Nat.le_refl _)) HN0.out).mono ?_
  rintro e w3 ⟨v, rfl, o, k⟩
  obtain ⟨ax0, cx0, rfl, _⟩ := o.came
  have Zt := Lib.hid (Op0.out.below k (Nat.le_refl _))
  clear Op0
  have Op0 := Zt
  clear Zt
  have Zt := Lib.hid (BB.out.trans (k.mono BB.out.size))
  clear BB
  have BB := Zt
  clear Zt
  have S2 := Lib.hid k.size
  have Ox0 := Lib.hid o
  have Nx0 := Lib.hid o.rng
  clear o k
  go_wp2_with fail
  refine (HI.out (by rw [HL0.out]; exact HN0.out) _ _ (Ox0.out.mono (Nat.zero_le _))).mono ?_
  rintro e w4 ⟨rfl, k⟩
  have Zt := Lib.hid (Op0.out.below k (Nat.le_refl _))
  clear Op0
  have Op0 := Zt
  clear Zt
  have Zt := Lib.hid (Ox0.out.below k (Nat.le_refl _))
  clear Ox0
  have Ox0 := Zt
  clear Zt
  have Zt := Lib.hid (BB.out.trans (k.mono BB.out.size))
  clear BB
  have BB := Zt
  clear Zt
  have S3 := Lib.hid k.size
  clear k
  go_wp2_with fail
  refine (toF_any ad0 n0 c0 A0 _ (HA0.out.below BB.out (Nat.le_refl _)) HN0.out).mono ?_
  rintro e w5 ⟨v, rfl, o, k⟩
  obtain ⟨ay0, cy0, rfl, _⟩ := o.came
  have Zt := Lib.hid (Op0.out.below k (Nat.le_refl _))
  clear Op0
  have Op0 := Zt
  clear Zt
  have Zt := Lib.hid (Ox0.out.below k (Nat.le_refl _))
  clear Ox0
  have Ox0 := Zt
  clear Zt
  have Zt := Lib.hid (BB.out.trans (k.mono BB.out.size))
  clear BB
  have BB := Zt
  clear Zt
  have S4 := Lib.hid k.size
  have Oy0 := Lib.hid o
  have Ny0 := Lib.hid o.rng
  clear o k
  go_wp2_with fail
  obtain ⟨_, _, e1, k1⟩ := Ox0.out.came
  obtain ⟨_, _, e2, k2⟩ := Oy0.out.came
  cases e1
  cases e2
  refine (eqF_yes _ _ A0.length _ _ A0 _ k1 k2 (by rw [HL0.out]; exact HN0.out)).mono ?_
  clear k1 k2
  rintro e w6 ⟨rfl, k⟩
  have Zt := Lib.hid (Op0.out.below k (Nat.le_refl _))
  clear Op0
  have Op0 := Zt
  clear Zt
  have Zt := Lib.hid (Ox0.out.below k (Nat.le_refl _))
  clear Ox0
  have Ox0 := Zt
  clear Zt
  have Zt := Lib.hid (Oy0.out.below k (Nat.le_refl _))
  clear Oy0
  have Oy0 := Zt
  clear Zt
  have Zt := Lib.hid (BB.out.trans (k.mono BB.out.size))
  clear BB
  have BB := Zt
  clear Zt
  have S5 := Lib.hid k.size
  clear k
  go_wp2_with fail
  go_ret
  exact ⟨rfl, BB.out⟩

end Go.Proofs.Ytajbnoofchcaoaa
