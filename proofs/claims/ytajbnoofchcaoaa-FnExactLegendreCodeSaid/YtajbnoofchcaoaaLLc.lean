/- What the law of LegendreCode does: it returns true where program and model answer alike. Condition: these answers. -/
import Derived.Test.YtajbnoofchcaoaaKa
import Derived.Lib.Hide
namespace Go.Proofs.Ytajbnoofchcaoaa
open Go Go.RowKit

set_option maxRecDepth 100000 in
set_option maxHeartbeats 3200000 in
theorem lawLegendreCode_of (m0 : Int) (R : List Nat) (c : Int) (w : World) (hR : R.length ≤ 1048576)
    (HS : Hid (List1F 24 m0 R c)) (HI : Hid (List1F 25 m0 R c)) :
    Calls Try.prog 6 #[.int .i64 m0] w fun e w' => e = .returned (.bool true) ∧ Below w.heap.size w w' := by
  have hcc : (c != c) = false := by simp
  have HRL := Lib.hid hR
  clear hR
  have BB : Hid (Below w.heap.size w w) := Lib.hid (Below.refl _ _)
  go_enter Try.func6, Try.ntmps6
  go_wp2_with fail
  refine (HS.out _).mono ?_
  rintro e w1 ⟨v, rfl, o, k⟩
  obtain ⟨ar, cr, rfl, _⟩ := o.came
  have Zt := Lib.hid (BB.out.trans (k.mono BB.out.size))
  clear BB
  have BB := Zt
  clear Zt
  have S0 := Lib.hid k.size
  have Or := Lib.hid o
  have Nr := Lib.hid o.rng
  clear o k
  go_wp2_with fail
  refine (HI.out _).mono ?_
  rintro e w2 ⟨v, rfl, o, k⟩
  obtain ⟨ag, cg, rfl, _⟩ := o.came
  have Zt := Lib.hid (Or.out.below k (Nat.le_refl _))
  clear Or
  have Or := Zt
  clear Zt
  have Zt := Lib.hid (BB.out.trans (k.mono BB.out.size))
  clear BB
  have BB := Zt
  clear Zt
  have S1 := Lib.hid k.size
  have Og := Lib.hid o
  have Ng := Lib.hid o.rng
  clear o k
  go_wp2_with fail
  obtain ⟨_, _, e1, k1⟩ := Og.out.came
  obtain ⟨_, _, e2, k2⟩ := Or.out.came
  cases e1
  cases e2
  refine (eqF_yes _ _ R.length _ _ R _ k1 k2 HRL.out).mono ?_
  clear k1 k2
  rintro e w3 ⟨rfl, k⟩
  have Zt := Lib.hid (Or.out.below k (Nat.le_refl _))
  clear Or
  have Or := Zt
  clear Zt
  have Zt := Lib.hid (Og.out.below k (Nat.le_refl _))
  clear Og
  have Og := Zt
  clear Zt
  have Zt := Lib.hid (BB.out.trans (k.mono BB.out.size))
  clear BB
  have BB := Zt
  clear Zt
  have S2 := Lib.hid k.size
  clear k
  go_wp2_with fail
  refine (markF_any 1 _ _ R _ Og.out (by omega) (by omega) HRL.out).mono ?_
  rintro e w4 ⟨rfl, om, gm⟩
  have Zt := Lib.hid (Or.out.grown gm Nr.out (fun j hj => by have h1 := Ng.out j hj; have := S0.out; have := S1.out; have := S2.out; omega))
  clear Or
  have Or := Zt
  clear Zt
  have Zt := Lib.hid (BB.out.grown gm BB.out.size (fun j hj => by have h1 := Ng.out j hj; have := S0.out; have := S1.out; have := S2.out; omega))
  clear BB
  have BB := Zt
  clear Zt
  have S3 := Lib.hid gm.size
  clear Og gm
  have Og := Lib.hid om
  clear om
  go_wp2_with fail
  obtain ⟨_, _, e1, k1⟩ := Og.out.came
  rw [marks_lenF] at e1 k1
  cases e1
  refine (heldF_any 1 _ R.length _ _ k1 (by omega) (by omega) HRL.out).mono ?_
  clear k1
  rintro e wq ⟨rfl, rfl⟩
  go_wp2_with fail
  refine (HI.out _).mono ?_
  rintro e w5 ⟨v, rfl, o, k⟩
  obtain ⟨ah, ch, rfl, _⟩ := o.came
  have Zt := Lib.hid (Or.out.below k (Nat.le_refl _))
  clear Or
  have Or := Zt
  clear Zt
  have Zt := Lib.hid (Og.out.below k (Nat.le_refl _))
  clear Og
  have Og := Zt
  clear Zt
  have Zt := Lib.hid (BB.out.trans (k.mono BB.out.size))
  clear BB
  have BB := Zt
  clear Zt
  have S4 := Lib.hid k.size
  have Oh := Lib.hid o
  have Nh := Lib.hid o.rng
  clear o k
  go_wp2_with fail
  obtain ⟨_, _, e1, k1⟩ := Oh.out.came
  obtain ⟨_, _, e2, k2⟩ := Or.out.came
  cases e1
  cases e2
  refine (eqF_yes _ _ R.length _ _ R _ k1 k2 HRL.out).mono ?_
  clear k1 k2
  rintro e w6 ⟨rfl, k⟩
  have Zt := Lib.hid (Or.out.below k (Nat.le_refl _))
  clear Or
  have Or := Zt
  clear Zt
  have Zt := Lib.hid (Og.out.below k (Nat.le_refl _))
  clear Og
  have Og := Zt
  clear Zt
  have Zt := Lib.hid (Oh.out.below k (Nat.le_refl _))
  clear Oh
  have Oh := Zt
  clear Zt
  have Zt := Lib.hid (BB.out.trans (k.mono BB.out.size))
  clear BB
  have BB := Zt
  clear Zt
  have S5 := Lib.hid k.size
  clear k
  go_wp2_with fail
  obtain ⟨_, _, e1, k1⟩ := Og.out.came
  rw [marks_lenF] at e1 k1
  cases e1
  refine (heldF_any 1 _ R.length _ _ k1 (by omega) (by omega) HRL.out).mono ?_
  clear k1
  rintro e wq ⟨rfl, rfl⟩
  go_wp2_with fail
  go_ret
  exact ⟨rfl, BB.out⟩

end Go.Proofs.Ytajbnoofchcaoaa
