/- What the law of PlaneSource does with the lists of waves: it returns true where program and model answer one list and one code. Condition: these answers. -/
import Derived.Test.YtjmfffgddmnkmabVm
import Derived.Test.YtjmfffgddmnkmabVu
import Derived.Test.YtjmfffgddmnkmabVh
namespace Go.Proofs.Ytjmfffgddmnkmab
open Go Go.RowKit

theorem OwnV.zone {B n lo hi p q : Nat} {v : Value} {xs : List Value} {w w' : World} (h : OwnV B v n xs w) (z : Zone lo hi w w') (r : Rng v p q) (hab : q ≤ lo ∨ hi ≤ p) : OwnV B v n xs w' := by
  refine ⟨h.1, ?_⟩
  rcases h.2 with h2 | ⟨g, cap, cur, rfl, hb, hg, hr⟩
  · exact .inl h2
  · have hq := r g rfl
    exact .inr ⟨g, cap, cur, rfl, hb, by rw [z.block g (by omega)]; exact hg, hr⟩

set_option maxRecDepth 100000 in
set_option maxHeartbeats 3200000 in
theorem lawPs_of (n : Int) (ad : Option Addr) (cap : Nat) (Ls : List (List Int)) (R : List (Array Value)) (c : Int) (w : World)
    (HC : Hid (CameS ad Ls.length Ls w)) (HLE : Hid (Ls.length ≤ 9223372036854775807 ∧ ∀ i, i < Ls.length → (Ls.getD i []).length ≤ 9223372036854775807)) (HRF : Hid (Fw R)) (HRL : Hid (R.length ≤ 16))
    (HS0 : Hid (Ls.length ≤ 1048576 → Planes 54 n Ls R c)) (HI0 : Hid (Ls.length ≤ 1048576 → Planes 56 n Ls R c)) :
    Calls Try.prog 10 #[.int .i64 n, .slice ad Ls.length cap] w fun e w' => e = .returned (.bool true) ∧ Below w.heap.size w w' := by
  have hcc : (c != c) = false := by simp
  have hmm : ((1 + ((R.length * 65 : Nat) : Int)) != 1 + ((R.length * 65 : Nat) : Int)) = false := by simp
  have hmp : decide (1 + ((R.length * 65 : Nat) : Int) < 0) = false := by simp; omega
  have HRB : Hid (R.length ≤ 1048576) := Lib.hid (by have := HRL.out; omega)
  go_enter Try.func10, Try.ntmps10
  go_wp2_with fail
  refine (szSS_any ad cap Ls _ HC.out HLE.out.1 HLE.out.2).mono ?_
  rintro e w0 ⟨r, rfl, rfl, hr⟩
  by_cases hneg : r < 0
  · have hd : decide (r < 0) = true := by simpa using hneg
    clear hr hneg
    go_wp2_with fail
    go_ret
    exact ⟨rfl, Below.refl _ _⟩
  have hd : decide (r < 0) = false := by simpa using hneg
  have HF : Hid (FitS Ls) := Lib.hid (hr.resolve_left hneg)
  have HS := Lib.hid (HS0.out HF.out.1)
  have HI := Lib.hid (HI0.out HF.out.1)
  clear hr hneg HS0 HI0 HLE
  have BB : Hid (Below w.heap.size w w) := Lib.hid (Below.refl _ _)
  go_wp2_with fail
  refine (toSS_any ad cap Ls _ (HC.out.below BB.out (Nat.le_refl _)) HF.out).mono ?_
  rintro e w1 ⟨v, rfl, o, k⟩
  obtain ⟨ap, cp, rfl, cm⟩ := o.came
  have Zt := Lib.hid (BB.out.trans (k.mono BB.out.size))
  clear BB
  have BB := Zt
  clear Zt
  have S0 := Lib.hid k.size
  have Cp := Lib.hid cm
  clear o k cm
  go_wp2_with fail
  refine (HS.out ap cp _ Cp.out).mono ?_
  rintro e w2 ⟨v, rfl, o, k⟩
  obtain ⟨ar, cr, rfl, _⟩ := o.came
  have Zt := Lib.hid (BB.out.trans (k.mono BB.out.size))
  clear BB
  have BB := Zt
  clear Zt
  have S1 := Lib.hid k.size
  have Or := Lib.hid o
  have Nr := Lib.hid o.rng
  clear o k
  clear Cp
  go_wp2_with fail
  refine (toSS_any ad cap Ls _ (HC.out.below BB.out (Nat.le_refl _)) HF.out).mono ?_
  rintro e w3 ⟨v, rfl, o, k⟩
  obtain ⟨ax, cx, rfl, cm⟩ := o.came
  have Zt := Lib.hid (Or.out.below k (Nat.le_refl _))
  clear Or
  have Or := Zt
  clear Zt
  have Zt := Lib.hid (BB.out.trans (k.mono BB.out.size))
  clear BB
  have BB := Zt
  clear Zt
  have S2 := Lib.hid k.size
  have Cx := Lib.hid cm
  have OX := Lib.hid o
  have KX : Hid (Below w3.heap.size w3 w3) := Lib.hid (Below.refl _ _)
  have BX : Hid (w2.heap.size ≤ w2.heap.size) := Lib.hid (Nat.le_refl _)
  clear o k cm
  go_wp2_with fail
  refine (HI.out ax cx _ Cx.out).mono ?_
  rintro e w4 ⟨v, rfl, o, k⟩
  obtain ⟨ag, cg, rfl, _⟩ := o.came
  have Zt := Lib.hid (Or.out.below k (Nat.le_refl _))
  clear Or
  have Or := Zt
  clear Zt
  have Zt := Lib.hid (BB.out.trans (k.mono BB.out.size))
  clear BB
  have BB := Zt
  clear Zt
  have Zt := Lib.hid (KX.out.trans (k.mono KX.out.size))
  clear KX
  have KX := Zt
  clear Zt
  have S3 := Lib.hid k.size
  have Og := Lib.hid o
  have Ng := Lib.hid o.rng
  clear o k
  go_wp2_with fail
  obtain ⟨_, _, e1, k1⟩ := Og.out.came
  obtain ⟨_, _, e2, k2⟩ := Or.out.came
  cases e1
  cases e2
  refine (eqWs_yes _ _ _ _ R _ HRF.out k1 k2 HRB.out).mono ?_
  clear k1 k2
  rintro e w5 ⟨rfl, k⟩
  have Zt := Lib.hid (Or.out.below k (Nat.le_refl _))
  clear Or
  have Or := Zt
  clear Zt
  have Zt := Lib.hid (Og.out.below k (Nat.le_refl _))
  clear Og
  have Og := Zt
  clear Zt
  have Zt := Lib.hid (BB.out.trans (k.mono BB.out.size))
  clear BB
  have BB := Zt
  clear Zt
  have Zt := Lib.hid (KX.out.trans (k.mono KX.out.size))
  clear KX
  have KX := Zt
  clear Zt
  have S4 := Lib.hid k.size
  clear k
  go_wp2_with fail
  refine (toSS_any ad cap Ls _ (HC.out.below BB.out (Nat.le_refl _)) HF.out).mono ?_
  rintro e w6 ⟨v, rfl, o, k⟩
  obtain ⟨ay, cy, rfl, cm⟩ := o.came
  have Zt := Lib.hid (Or.out.below k (Nat.le_refl _))
  clear Or
  have Or := Zt
  clear Zt
  have Zt := Lib.hid (Og.out.below k (Nat.le_refl _))
  clear Og
  have Og := Zt
  clear Zt
  have Zt := Lib.hid (BB.out.trans (k.mono BB.out.size))
  clear BB
  have BB := Zt
  clear Zt
  have Zt := Lib.hid (KX.out.trans (k.mono KX.out.size))
  clear KX
  have KX := Zt
  clear Zt
  have S5 := Lib.hid k.size
  have Cy := Lib.hid cm
  clear o k cm
  go_wp2_with fail
  refine (eqSS_yes _ _ _ _ Ls _ (Cx.out.below KX.out (Nat.le_refl _)) Cy.out HF.out).mono ?_
  rintro e w7 ⟨rfl, k⟩
  have Zt := Lib.hid (Or.out.below k (Nat.le_refl _))
  clear Or
  have Or := Zt
  clear Zt
  have Zt := Lib.hid (Og.out.below k (Nat.le_refl _))
  clear Og
  have Og := Zt
  clear Zt
  have Zt := Lib.hid (BB.out.trans (k.mono BB.out.size))
  clear BB
  have BB := Zt
  clear Zt
  have Zt := Lib.hid (KX.out.trans (k.mono KX.out.size))
  clear KX
  have KX := Zt
  clear Zt
  have S6 := Lib.hid k.size
  clear k Cy
  go_wp2_with fail
  refine (markSS_any _ _ Ls _ _ OX.out KX.out HF.out).mono ?_
  rintro e w8 ⟨q, rfl, hq0, z⟩
  have hqd : decide (q < 0) = false := by simp; omega
  have Zt := Lib.hid (Or.out.zone z Nr.out (by have := S0.out; have := S1.out; have := S2.out; have := S3.out; have := S4.out; have := S5.out; have := S6.out; omega))
  clear Or
  have Or := Zt
  clear Zt
  have Zt := Lib.hid (Og.out.zone z Ng.out (by have := S0.out; have := S1.out; have := S2.out; have := S3.out; have := S4.out; have := S5.out; have := S6.out; omega))
  clear Og
  have Og := Zt
  clear Zt
  have Zt := Lib.hid (z.below BB.out (by have := S0.out; have := S1.out; have := S2.out; have := S3.out; have := S4.out; have := S5.out; have := S6.out; omega))
  clear BB
  have BB := Zt
  clear Zt
  have S7 := Lib.hid (Nat.le_of_eq z.size.symm)
  clear z hq0 OX KX Cx
  go_wp2_with fail
  obtain ⟨_, _, e1, k1⟩ := Og.out.came
  obtain ⟨_, _, e2, k2⟩ := Or.out.came
  cases e1
  cases e2
  refine (eqWs_yes _ _ _ _ R _ HRF.out k1 k2 HRB.out).mono ?_
  clear k1 k2
  rintro e w9 ⟨rfl, k⟩
  have Zt := Lib.hid (Or.out.below k (Nat.le_refl _))
  clear Or
  have Or := Zt
  clear Zt
  have Zt := Lib.hid (Og.out.below k (Nat.le_refl _))
  clear Og
  have Og := Zt
  clear Zt
  have Zt := Lib.hid (BB.out.trans (k.mono BB.out.size))
  clear BB
  have BB := Zt
  clear Zt
  have S8 := Lib.hid k.size
  clear k
  go_wp2_with fail
  refine (markWs_any _ _ R.length (flatW R) _ Og.out HRL.out).mono ?_
  rintro e w10 ⟨rfl, om, gm⟩
  have Zt := Lib.hid (Or.out.grown gm Nr.out (fun j hj => by have h1 := Ng.out j hj; have := S0.out; have := S1.out; have := S2.out; have := S3.out; have := S4.out; have := S5.out; have := S6.out; have := S7.out; have := S8.out; omega))
  clear Or
  have Or := Zt
  clear Zt
  have Zt := Lib.hid (BB.out.grown gm BB.out.size (fun j hj => by have h1 := Ng.out j hj; have := S0.out; have := S1.out; have := S2.out; have := S3.out; have := S4.out; have := S5.out; have := S6.out; have := S7.out; have := S8.out; omega))
  clear BB
  have BB := Zt
  clear Zt
  have S9 := Lib.hid gm.size
  clear Og gm
  have Og := Lib.hid om
  clear om
  go_wp2_with fail
  obtain ⟨_, _, e1, k1⟩ := Og.out.came
  cases e1
  refine (heldWs_any _ R.length _ _ k1 HRL.out).mono ?_
  clear k1
  rintro e wq ⟨rfl, rfl⟩
  go_wp2_with fail
  refine (toSS_any ad cap Ls _ (HC.out.below BB.out (Nat.le_refl _)) HF.out).mono ?_
  rintro e w11 ⟨v, rfl, o, k⟩
  obtain ⟨au, cu, rfl, cm⟩ := o.came
  have Zt := Lib.hid (Or.out.below k (Nat.le_refl _))
  clear Or
  have Or := Zt
  clear Zt
  have Zt := Lib.hid (Og.out.below k (Nat.le_refl _))
  clear Og
  have Og := Zt
  clear Zt
  have Zt := Lib.hid (BB.out.trans (k.mono BB.out.size))
  clear BB
  have BB := Zt
  clear Zt
  have S10 := Lib.hid k.size
  have Cu := Lib.hid cm
  clear o k cm
  go_wp2_with fail
  refine (HI.out au cu _ Cu.out).mono ?_
  rintro e w12 ⟨v, rfl, o, k⟩
  obtain ⟨ah, ch, rfl, _⟩ := o.came
  have Zt := Lib.hid (Or.out.below k (Nat.le_refl _))
  clear Or
  have Or := Zt
  clear Zt
  have Zt := Lib.hid (Og.out.below k (Nat.le_refl _))
  clear Og
  have Og := Zt
  clear Zt
  have Zt := Lib.hid (BB.out.trans (k.mono BB.out.size))
  clear BB
  have BB := Zt
  clear Zt
  have S11 := Lib.hid k.size
  have Oh := Lib.hid o
  have Nh := Lib.hid o.rng
  clear o k
  clear Cu
  go_wp2_with fail
  obtain ⟨_, _, e1, k1⟩ := Oh.out.came
  obtain ⟨_, _, e2, k2⟩ := Or.out.came
  cases e1
  cases e2
  refine (eqWs_yes _ _ _ _ R _ HRF.out k1 k2 HRB.out).mono ?_
  clear k1 k2
  rintro e w13 ⟨rfl, k⟩
  have Zt := Lib.hid (Or.out.below k (Nat.le_refl _))
  clear Or
  have Or := Zt
  clear Zt
  have Zt := Lib.hid (Og.out.below k (Nat.le_refl _))
  clear Og
  have Og := Zt
  clear Zt
  have Zt := Lib.hid (Oh.out.below k (Nat.le_refl _))
  clear Oh
  have Oh := Zt
  clear Zt
  have Zt := Lib.hid (BB.out.trans (k.mono BB.out.size))
  clear BB
  have BB := Zt
  clear Zt
  have S12 := Lib.hid k.size
  clear k
  go_wp2_with fail
  obtain ⟨_, _, e1, k1⟩ := Og.out.came
  cases e1
  refine (heldWs_any _ R.length _ _ k1 HRL.out).mono ?_
  clear k1
  rintro e wq ⟨rfl, rfl⟩
  go_wp2_with fail
  go_ret
  exact ⟨rfl, BB.out⟩

end Go.Proofs.Ytjmfffgddmnkmab
