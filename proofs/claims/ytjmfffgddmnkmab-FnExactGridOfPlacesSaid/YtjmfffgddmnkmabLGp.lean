/- What the law of GridOfPlaces does with the lists of places: it returns true where program and model answer one list and one code. Condition: these answers. -/
import Derived.Test.YtjmfffgddmnkmabGs
import Derived.Lib.Hide
namespace Go.Proofs.Ytjmfffgddmnkmab
open Go Go.RowKit

set_option maxRecDepth 100000 in
set_option maxHeartbeats 1600000 in
theorem lawGp_of (n s : Int) (k : Nat) (R : List Int) (c : Int) (w : World) (hR : k ≤ 1048576)
    (HS : Hid (Grids 50 n s k R c)) (HI : Hid (Grids 51 n s k R c)) :
    Calls Try.prog 9 #[.int .i64 n, .int .i64 s] w fun e w' => e = .returned (.bool true) ∧ Below w.heap.size w w' := by
  have hcc : (c != c) = false := by simp
  have HRL := Lib.hid hR
  have hmm : ((1 + ((k * 2 : Nat) : Int)) != 1 + ((k * 2 : Nat) : Int)) = false := by simp
  have hmp : decide (1 + ((k * 2 : Nat) : Int) < 0) = false := by simp; omega
  clear hR
  go_enter Try.func9, Try.ntmps9
  go_wp2_with fail
  refine (HS.out _).mono ?_
  rintro e w1 ⟨vr, rfl, or, kr⟩
  obtain ⟨ar, cr, rfl, _⟩ := or.came
  have BB := Lib.hid kr
  have Or := Lib.hid or
  have Nr := Lib.hid or.rng
  have Sr := Lib.hid kr.size
  clear or kr
  go_wp2_with fail
  refine (HI.out _).mono ?_
  rintro e w2 ⟨vg, rfl, og, kg⟩
  obtain ⟨ag, cg, rfl, _⟩ := og.came
  have Orn := Lib.hid (Or.out.below kg (Nat.le_refl _))
  clear Or
  have Or := Orn
  clear Orn
  have BBn := Lib.hid (BB.out.trans (kg.mono BB.out.size))
  clear BB
  have BB := BBn
  clear BBn
  have Og := Lib.hid og
  have Ng := Lib.hid og.rng
  have Sg := Lib.hid kg.size
  clear og kg
  go_wp2_with fail
  obtain ⟨_, _, e1, k1⟩ := Og.out.came
  obtain ⟨_, _, e2, k2⟩ := Or.out.came
  cases e1
  cases e2
  refine (eqP_yes _ _ k _ _ R _ k1 k2 HRL.out).mono ?_
  clear k1 k2
  rintro e w3 ⟨rfl, ke⟩
  have Orn := Lib.hid (Or.out.below ke (Nat.le_refl _))
  clear Or
  have Or := Orn
  clear Orn
  have Ogn := Lib.hid (Og.out.below ke (Nat.le_refl _))
  clear Og
  have Og := Ogn
  clear Ogn
  have BBn := Lib.hid (BB.out.trans (ke.mono BB.out.size))
  clear BB
  have BB := BBn
  clear BBn
  have SE1 := Lib.hid ke.size
  clear ke
  go_wp2_with fail
  refine (markP_any _ _ k R _ Og.out HRL.out).mono ?_
  rintro e w4 ⟨rfl, om, gm⟩
  have Orn := Lib.hid (Or.out.grown gm Nr.out (fun j hj => by have h1 := Ng.out j hj; have := Sr.out; have := Sg.out; have := SE1.out; omega))
  clear Or
  have Or := Orn
  clear Orn
  have BBn := Lib.hid (BB.out.grown gm BB.out.size (fun j hj => by have h1 := Ng.out j hj; have := Sr.out; have := Sg.out; have := SE1.out; omega))
  have SMg := Lib.hid gm.size
  clear BB Og gm
  have BB := BBn
  clear BBn
  have Og := Lib.hid om
  clear om
  go_wp2_with fail
  obtain ⟨_, _, e1, k1⟩ := Og.out.came
  cases e1
  refine (heldP_any _ k _ _ k1 HRL.out).mono ?_
  clear k1
  rintro e wq ⟨rfl, rfl⟩
  go_wp2_with fail
  refine (HI.out _).mono ?_
  rintro e w5 ⟨vh, rfl, oh, kh⟩
  obtain ⟨ah, ch, rfl, _⟩ := oh.came
  have Orn := Lib.hid (Or.out.below kh (Nat.le_refl _))
  clear Or
  have Or := Orn
  clear Orn
  have Ogn := Lib.hid (Og.out.below kh (Nat.le_refl _))
  clear Og
  have Og := Ogn
  clear Ogn
  have BBn := Lib.hid (BB.out.trans (kh.mono BB.out.size))
  clear BB
  have BB := BBn
  clear BBn
  have Oh := Lib.hid oh
  have Nh := Lib.hid oh.rng
  have Sh := Lib.hid kh.size
  clear oh kh
  go_wp2_with fail
  obtain ⟨_, _, e1, k1⟩ := Oh.out.came
  obtain ⟨_, _, e2, k2⟩ := Or.out.came
  cases e1
  cases e2
  refine (eqP_yes _ _ k _ _ R _ k1 k2 HRL.out).mono ?_
  clear k1 k2
  rintro e w6 ⟨rfl, ke⟩
  have Orn := Lib.hid (Or.out.below ke (Nat.le_refl _))
  clear Or
  have Or := Orn
  clear Orn
  have Ogn := Lib.hid (Og.out.below ke (Nat.le_refl _))
  clear Og
  have Og := Ogn
  clear Ogn
  have Ohn := Lib.hid (Oh.out.below ke (Nat.le_refl _))
  clear Oh
  have Oh := Ohn
  clear Ohn
  have BBn := Lib.hid (BB.out.trans (ke.mono BB.out.size))
  clear BB
  have BB := BBn
  clear BBn
  have SE2 := Lib.hid ke.size
  clear ke
  go_wp2_with fail
  obtain ⟨_, _, e1, k1⟩ := Og.out.came
  cases e1
  refine (heldP_any _ k _ _ k1 HRL.out).mono ?_
  clear k1
  rintro e wq ⟨rfl, rfl⟩
  go_wp2_with fail
  go_ret
  exact ⟨rfl, BB.out⟩

end Go.Proofs.Ytjmfffgddmnkmab
