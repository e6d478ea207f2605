/- What the law of SumsBack does: it returns true where program and model answer alike. Condition: these answers. -/
import Derived.Test.YtajbnoofchcaoaaKa
import Derived.Lib.Hide
namespace Go.Proofs.Ytajbnoofchcaoaa
open Go Go.RowKit

set_option maxRecDepth 100000 in
set_option maxHeartbeats 3200000 in
theorem lawSumsBack_of (ad0 : Option Addr) (n0 c0 : Nat) (A0 : List Nat) (R : List Nat) (c : Int) (w : World) (hA0 : CameF ad0 n0 A0 w) (hR : R.length ≤ 1048576)
    (HS : Hid (ListsF 22 A0 R c)) (HI : Hid (ListsF 23 A0 R c)) :
    Calls Try.prog 5 #[.slice ad0 n0 c0] w fun e w' => e = .returned (.bool true) ∧ Below w.heap.size w w' := by
  by_cases hbig0 : 1048576 < n0
  · go_enter Try.func5, Try.ntmps5
    go_wp2_with fail
    go_ret
    exact ⟨rfl, Below.refl _ _⟩
  have hn0 : n0 ≤ 1048576 := by omega
  have HA0 := Lib.hid hA0
  have HN0 := Lib.hid hn0
  have HL0 := Lib.hid hA0.1
  have hcc : (c != c) = false := by simp
  have HRL := Lib.hid hR
  clear hA0 hR
  have BB : Hid (Below w.heap.size w w) := Lib.hid (Below.refl _ _)
  go_enter Try.func5, Try.ntmps5
  go_wp2_with fail
  refine (toF_any ad0 n0 c0 A0 _ (HA0.out.below BB.out (Nat.le_refl _)) HN0.out).mono ?_
  rintro e w1 ⟨v, rfl, o, k⟩
  obtain ⟨ap0, cp0, rfl, _⟩ := o.came
  have Zt := Lib.hid (BB.out.trans (k.mono BB.out.size))
  clear BB
  have BB := Zt
  clear Zt
  have S0 := Lib.hid k.size
  have Op0 := Lib.hid o
  have Np0 := Lib.hid o.rng
  clear o k
  go_wp2_with fail
  refine (HS.out (by rw [HL0.out]; exact HN0.out) _ _ (Op0.out.mono (Nat.zero_le _))).mono ?_
  rintro e w2 ⟨v, rfl, o, k⟩
  obtain ⟨ar, cr, rfl, _⟩ := o.came
  have Zt := Lib.hid (Op0.out.below k (Nat.le_refl _))
  clear Op0
  have Op0 := Zt
  clear Zt
  have Zt := Lib.hid (BB.out.trans (k.mono BB.out.size))
  clear BB
  have BB := Zt
  clear Zt
  have S1 := Lib.hid k.size
  have Or := Lib.hid o
  have Nr := Lib.hid o.rng
  clear o k
  go_wp2_with fail
  refine (toF_any ad0 n0 c0 A0 _ (HA0.out.below BB.out (Nat.le_refl _)) HN0.out).mono ?_
  rintro e w3 ⟨v, rfl, o, k⟩
  obtain ⟨ax0, cx0, rfl, _⟩ := o.came
  have Zt := Lib.hid (Op0.out.below k (Nat.le_refl _))
  clear Op0
  have Op0 := Zt
  clear Zt
  have Zt := Lib.hid (Or.out.below k (Nat.le_refl _))
  clear Or
  have Or := Zt
  clear Zt
  have Zt := Lib.hid (BB.out.trans (k.mono BB.out.size))
  clear BB
  have BB := Zt
  clear Zt
  have S2 := Lib.hid k.size
  have Ox0 := Lib.hid o
  have Nx0 := Lib.hid o.rng
  clear o k
  go_wp2_with fail
  refine (HI.out (by rw [HL0.out]; exact HN0.out) _ _ (Ox0.out.mono (Nat.zero_le _))).mono ?_
  rintro e w4 ⟨v, rfl, o, k⟩
  obtain ⟨ag, cg, rfl, _⟩ := o.came
  have Zt := Lib.hid (Op0.out.below k (Nat.le_refl _))
  clear Op0
  have Op0 := Zt
  clear Zt
  have Zt := Lib.hid (Or.out.below k (Nat.le_refl _))
  clear Or
  have Or := Zt
  clear Zt
  have Zt := Lib.hid (Ox0.out.below k (Nat.le_refl _))
  clear Ox0
  have Ox0 := Zt
  clear Zt
  have Zt := Lib.hid (BB.out.trans (k.mono BB.out.size))
  clear BB
  have BB := Zt
  clear Zt
  have S3 := Lib.hid k.size
  have Og := Lib.hid o
  have Ng := Lib.hid o.rng
  clear o k
  go_wp2_with fail
  obtain ⟨_, _, e1, k1⟩ := Og.out.came
  obtain ⟨_, _, e2, k2⟩ := Or.out.came
  cases e1
  cases e2
  refine (eqF_yes _ _ R.length _ _ R _ k1 k2 HRL.out).mono ?_
  clear k1 k2
  rintro e w5 ⟨rfl, k⟩
  have Zt := Lib.hid (Op0.out.below k (Nat.le_refl _))
  clear Op0
  have Op0 := Zt
  clear Zt
  have Zt := Lib.hid (Or.out.below k (Nat.le_refl _))
  clear Or
  have Or := Zt
  clear Zt
  have Zt := Lib.hid (Ox0.out.below k (Nat.le_refl _))
  clear Ox0
  have Ox0 := Zt
  clear Zt
  have Zt := Lib.hid (Og.out.below k (Nat.le_refl _))
  clear Og
  have Og := Zt
  clear Zt
  have Zt := Lib.hid (BB.out.trans (k.mono BB.out.size))
  clear BB
  have BB := Zt
  clear Zt
  have S4 := Lib.hid k.size
  clear k
  go_wp2_with fail
  refine (toF_any ad0 n0 c0 A0 _ (HA0.out.below BB.out (Nat.le_refl _)) HN0.out).mono ?_
  rintro e w6 ⟨v, rfl, o, k⟩
  obtain ⟨ay0, cy0, rfl, _⟩ := o.came
  have Zt := Lib.hid (Op0.out.below k (Nat.le_refl _))
  clear Op0
  have Op0 := Zt
  clear Zt
  have Zt := Lib.hid (Or.out.below k (Nat.le_refl _))
  clear Or
  have Or := Zt
  clear Zt
  have Zt := Lib.hid (Ox0.out.below k (Nat.le_refl _))
  clear Ox0
  have Ox0 := Zt
  clear Zt
  have Zt := Lib.hid (Og.out.below k (Nat.le_refl _))
  clear Og
  have Og := Zt
  clear Zt
  have Zt := Lib.hid (BB.out.trans (k.mono BB.out.size))
  clear BB
  have BB := Zt
  clear Zt
  have S5 := Lib.hid k.size
  have Oy0 := Lib.hid o
  have Ny0 := Lib.hid o.rng
  clear o k
  go_wp2_with fail
  obtain ⟨_, _, e1, k1⟩ := Ox0.out.came
  obtain ⟨_, _, e2, k2⟩ := Oy0.out.came
  cases e1
  cases e2
  refine (eqF_yes _ _ A0.length _ _ A0 _ k1 k2 (by rw [HL0.out]; exact HN0.out)).mono ?_
  clear k1 k2
  rintro e w7 ⟨rfl, k⟩
  have Zt := Lib.hid (Op0.out.below k (Nat.le_refl _))
  clear Op0
  have Op0 := Zt
  clear Zt
  have Zt := Lib.hid (Or.out.below k (Nat.le_refl _))
  clear Or
  have Or := Zt
  clear Zt
  have Zt := Lib.hid (Ox0.out.below k (Nat.le_refl _))
  clear Ox0
  have Ox0 := Zt
  clear Zt
  have Zt := Lib.hid (Og.out.below k (Nat.le_refl _))
  clear Og
  have Og := Zt
  clear Zt
  have Zt := Lib.hid (Oy0.out.below k (Nat.le_refl _))
  clear Oy0
  have Oy0 := Zt
  clear Zt
  have Zt := Lib.hid (BB.out.trans (k.mono BB.out.size))
  clear BB
  have BB := Zt
  clear Zt
  have S6 := Lib.hid k.size
  clear k
  go_wp2_with fail
  refine (markF_any 1 _ _ A0 _ Ox0.out (by omega) (by omega) (by rw [HL0.out]; exact HN0.out)).mono ?_
  rintro e w8 ⟨rfl, om, gm⟩
  have Zt := Lib.hid (Op0.out.grown gm Np0.out (fun j hj => by have h1 := Nx0.out j hj; have := S0.out; have := S1.out; have := S2.out; have := S3.out; have := S4.out; have := S5.out; have := S6.out; omega))
  clear Op0
  have Op0 := Zt
  clear Zt
  have Zt := Lib.hid (Or.out.grown gm Nr.out (fun j hj => by have h1 := Nx0.out j hj; have := S0.out; have := S1.out; have := S2.out; have := S3.out; have := S4.out; have := S5.out; have := S6.out; omega))
  clear Or
  have Or := Zt
  clear Zt
  have Zt := Lib.hid (Og.out.grown gm Ng.out (fun j hj => by have h1 := Nx0.out j hj; have := S0.out; have := S1.out; have := S2.out; have := S3.out; have := S4.out; have := S5.out; have := S6.out; omega))
  clear Og
  have Og := Zt
  clear Zt
  have Zt := Lib.hid (Oy0.out.grown gm Ny0.out (fun j hj => by have h1 := Nx0.out j hj; have := S0.out; have := S1.out; have := S2.out; have := S3.out; have := S4.out; have := S5.out; have := S6.out; omega))
  clear Oy0
  have Oy0 := Zt
  clear Zt
  have Zt := Lib.hid (BB.out.grown gm BB.out.size (fun j hj => by have h1 := Nx0.out j hj; have := S0.out; have := S1.out; have := S2.out; have := S3.out; have := S4.out; have := S5.out; have := S6.out; omega))
  clear BB
  have BB := Zt
  clear Zt
  have S7 := Lib.hid gm.size
  clear Ox0 gm
  have Ox0 := Lib.hid om
  clear om
  go_wp2_with fail
  obtain ⟨_, _, e1, k1⟩ := Og.out.came
  obtain ⟨_, _, e2, k2⟩ := Or.out.came
  cases e1
  cases e2
  refine (eqF_yes _ _ R.length _ _ R _ k1 k2 HRL.out).mono ?_
  clear k1 k2
  rintro e w9 ⟨rfl, k⟩
  have Zt := Lib.hid (Op0.out.below k (Nat.le_refl _))
  clear Op0
  have Op0 := Zt
  clear Zt
  have Zt := Lib.hid (Or.out.below k (Nat.le_refl _))
  clear Or
  have Or := Zt
  clear Zt
  have Zt := Lib.hid (Og.out.below k (Nat.le_refl _))
  clear Og
  have Og := Zt
  clear Zt
  have Zt := Lib.hid (Oy0.out.below k (Nat.le_refl _))
  clear Oy0
  have Oy0 := Zt
  clear Zt
  have Zt := Lib.hid (BB.out.trans (k.mono BB.out.size))
  clear BB
  have BB := Zt
  clear Zt
  have S8 := Lib.hid k.size
  clear k
  go_wp2_with fail
  refine (markF_any 1 _ _ R _ Og.out (by omega) (by omega) HRL.out).mono ?_
  rintro e w10 ⟨rfl, om, gm⟩
  have Zt := Lib.hid (Op0.out.grown gm Np0.out (fun j hj => by have h1 := Ng.out j hj; have := S0.out; have := S1.out; have := S2.out; have := S3.out; have := S4.out; have := S5.out; have := S6.out; have := S7.out; have := S8.out; omega))
  clear Op0
  have Op0 := Zt
  clear Zt
  have Zt := Lib.hid (Or.out.grown gm Nr.out (fun j hj => by have h1 := Ng.out j hj; have := S0.out; have := S1.out; have := S2.out; have := S3.out; have := S4.out; have := S5.out; have := S6.out; have := S7.out; have := S8.out; omega))
  clear Or
  have Or := Zt
  clear Zt
  have Zt := Lib.hid (Oy0.out.grown gm Ny0.out (fun j hj => by have h1 := Ng.out j hj; have := S0.out; have := S1.out; have := S2.out; have := S3.out; have := S4.out; have := S5.out; have := S6.out; have := S7.out; have := S8.out; omega))
  clear Oy0
  have Oy0 := Zt
  clear Zt
  have Zt := Lib.hid (BB.out.grown gm BB.out.size (fun j hj => by have h1 := Ng.out j hj; have := S0.out; have := S1.out; have := S2.out; have := S3.out; have := S4.out; have := S5.out; have := S6.out; have := S7.out; have := S8.out; omega))
  clear BB
  have BB := Zt
  clear Zt
  have S9 := Lib.hid gm.size
  clear Og gm
  have Og := Lib.hid om
  clear om
  go_wp2_with fail
  obtain ⟨_, _, e1, k1⟩ := Og.out.came
  rw [marks_lenF] at e1 k1
  cases e1
  refine (heldF_any 1 _ R.length _ _ k1 (by omega) (by omega) HRL.out).mono ?_
  clear k1
  rintro e wq ⟨rfl, rfl⟩
  go_wp2_with fail
  refine (toF_any ad0 n0 c0 A0 _ (HA0.out.below BB.out (Nat.le_refl _)) HN0.out).mono ?_
  rintro e w11 ⟨v, rfl, o, k⟩
  obtain ⟨az0, cz0, rfl, _⟩ := o.came
  have Zt := Lib.hid (Op0.out.below k (Nat.le_refl _))
  clear Op0
  have Op0 := Zt
  clear Zt
  have Zt := Lib.hid (Or.out.below k (Nat.le_refl _))
  clear Or
  have Or := Zt
  clear Zt
  have Zt := Lib.hid (Og.out.below k (Nat.le_refl _))
  clear Og
  have Og := Zt
  clear Zt
  have Zt := Lib.hid (Oy0.out.below k (Nat.le_refl _))
  clear Oy0
  have Oy0 := Zt
  clear Zt
  have Zt := Lib.hid (BB.out.trans (k.mono BB.out.size))
  clear BB
  have BB := Zt
  clear Zt
  have S10 := Lib.hid k.size
  have Oz0 := Lib.hid o
  have Nz0 := Lib.hid o.rng
  clear o k
  go_wp2_with fail
  refine (HI.out (by rw [HL0.out]; exact HN0.out) _ _ (Oz0.out.mono (Nat.zero_le _))).mono ?_
  rintro e w12 ⟨v, rfl, o, k⟩
  obtain ⟨ah, ch, rfl, _⟩ := o.came
  have Zt := Lib.hid (Op0.out.below k (Nat.le_refl _))
  clear Op0
  have Op0 := Zt
  clear Zt
  have Zt := Lib.hid (Or.out.below k (Nat.le_refl _))
  clear Or
  have Or := Zt
  clear Zt
  have Zt := Lib.hid (Og.out.below k (Nat.le_refl _))
  clear Og
  have Og := Zt
  clear Zt
  have Zt := Lib.hid (Oy0.out.below k (Nat.le_refl _))
  clear Oy0
  have Oy0 := Zt
  clear Zt
  have Zt := Lib.hid (Oz0.out.below k (Nat.le_refl _))
  clear Oz0
  have Oz0 := Zt
  clear Zt
  have Zt := Lib.hid (BB.out.trans (k.mono BB.out.size))
  clear BB
  have BB := Zt
  clear Zt
  have S11 := Lib.hid k.size
  have Oh := Lib.hid o
  have Nh := Lib.hid o.rng
  clear o k
  go_wp2_with fail
  obtain ⟨_, _, e1, k1⟩ := Oh.out.came
  obtain ⟨_, _, e2, k2⟩ := Or.out.came
  cases e1
  cases e2
  refine (eqF_yes _ _ R.length _ _ R _ k1 k2 HRL.out).mono ?_
  clear k1 k2
  rintro e w13 ⟨rfl, k⟩
  have Zt := Lib.hid (Op0.out.below k (Nat.le_refl _))
  clear Op0
  have Op0 := Zt
  clear Zt
  have Zt := Lib.hid (Or.out.below k (Nat.le_refl _))
  clear Or
  have Or := Zt
  clear Zt
  have Zt := Lib.hid (Og.out.below k (Nat.le_refl _))
  clear Og
  have Og := Zt
  clear Zt
  have Zt := Lib.hid (Oy0.out.below k (Nat.le_refl _))
  clear Oy0
  have Oy0 := Zt
  clear Zt
  have Zt := Lib.hid (Oz0.out.below k (Nat.le_refl _))
  clear Oz0
  have Oz0 := Zt
  clear Zt
  have Zt := Lib.hid (Oh.out.below k (Nat.le_refl _))
  clear Oh
  have Oh := Zt
  clear Zt
  have Zt := Lib.hid (BB.out.trans (k.mono BB.out.size))
  clear BB
  have BB := Zt
  clear Zt
  have S12 := Lib.hid k.size
  clear k
  go_wp2_with fail
  obtain ⟨_, _, e1, k1⟩ := Og.out.came
  rw [marks_lenF] at e1 k1
  cases e1
  refine (heldF_any 1 _ R.length _ _ k1 (by omega) (by omega) HRL.out).mono ?_
  clear k1
  rintro e wq ⟨rfl, rfl⟩
  go_wp2_with fail
  go_ret
  exact ⟨rfl, BB.out⟩

end Go.Proofs.Ytajbnoofchcaoaa
