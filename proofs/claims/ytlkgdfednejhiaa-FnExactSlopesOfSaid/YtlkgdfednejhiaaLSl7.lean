/- What the law of SlopesOf does with the lists: it returns true where program and model answer one list and one code. Condition: these answers. -/
import Derived.Test.YtlkgdfednejhiaaHk
import Derived.Lib.Hide
namespace Go.Proofs.Ytlkgdfednejhiaa
open Go Go.RowKit

set_option maxRecDepth 100000 in
set_option maxHeartbeats 1600000 in
theorem lawSlopesOf_of (n : Int) (ad : Option Addr) (len cap : Nat) (L R : List Int) (c : Int) (w : World) (hA : Came ad len L w) (hR : R.length ≤ 1048576)
    (HS : Hid (Lists 28 n L R c)) (HI : Hid (Lists 27 n L R c)) :
    Calls Try.prog 9 #[.int .i64 n, .slice ad len cap] w fun e w' => e = .returned (.bool true) ∧ Below w.heap.size w w' := by
  by_cases hbig : 1048576 < len
  · go_enter Try.func9, Try.ntmps9
    go_wp2_with fail
    go_ret
    exact ⟨rfl, Below.refl _ _⟩
  · have hn : len ≤ 1048576 := by omega
    have hlen : L.length = len := hA.1
    have HA := Lib.hid hA
    have hcc : (c != c) = false := by simp
    have HN := Lib.hid hn
    have HL := Lib.hid hlen
    have HRL := Lib.hid hR
    clear hA hn hR hlen
    go_enter Try.func9, Try.ntmps9
    go_wp2_with fail
    refine (toInt_any ad len cap L _ HA.out HN.out).mono ?_
    rintro e w1 ⟨vp, rfl, op, kp⟩
    obtain ⟨ap, cp, rfl, _⟩ := op.came
    have BB := Lib.hid kp
    have Op := Lib.hid op
    have Np := Lib.hid op.rng
    have Sp := Lib.hid kp.size
    clear op kp
    go_wp2_with fail
    refine (HS.out (by rw [HL.out]; exact HN.out) _ _ (Op.out.mono (Nat.zero_le _))).mono ?_
    rintro e w2 ⟨vr, rfl, or, kr⟩
    obtain ⟨ar, cr, rfl, _⟩ := or.came
    have Opn := Lib.hid (Op.out.below kr (Nat.le_refl _))
    clear Op
    have Op := Opn
    clear Opn
    have BBn := Lib.hid (BB.out.trans (kr.mono BB.out.size))
    clear BB
    have BB := BBn
    clear BBn
    have Or := Lib.hid or
    have Nr := Lib.hid or.rng
    have Sr := Lib.hid kr.size
    clear or kr
    go_wp2_with fail
    refine (toInt_any ad len cap L _ (HA.out.below BB.out (Nat.le_refl _)) HN.out).mono ?_
    rintro e w3 ⟨vx, rfl, ox, kx⟩
    obtain ⟨ax, cx, rfl, _⟩ := ox.came
    have Opn := Lib.hid (Op.out.below kx (Nat.le_refl _))
    clear Op
    have Op := Opn
    clear Opn
    have Orn := Lib.hid (Or.out.below kx (Nat.le_refl _))
    clear Or
    have Or := Orn
    clear Orn
    have BBn := Lib.hid (BB.out.trans (kx.mono BB.out.size))
    clear BB
    have BB := BBn
    clear BBn
    have Ox := Lib.hid ox
    have Nx := Lib.hid ox.rng
    have Sx := Lib.hid kx.size
    clear ox kx
    go_wp2_with fail
    refine (HI.out (by rw [HL.out]; exact HN.out) _ _ (Ox.out.mono (Nat.zero_le _))).mono ?_
    rintro e w4 ⟨vg, rfl, og, kg⟩
    obtain ⟨ag, cg, rfl, _⟩ := og.came
    have Opn := Lib.hid (Op.out.below kg (Nat.le_refl _))
    clear Op
    have Op := Opn
    clear Opn
    have Orn := Lib.hid (Or.out.below kg (Nat.le_refl _))
    clear Or
    have Or := Orn
    clear Orn
    have Oxn := Lib.hid (Ox.out.below kg (Nat.le_refl _))
    clear Ox
    have Ox := Oxn
    clear Oxn
    have BBn := Lib.hid (BB.out.trans (kg.mono BB.out.size))
    clear BB
    have BB := BBn
    clear BBn
    have Og := Lib.hid og
    have Ng := Lib.hid og.rng
    have Sg := Lib.hid kg.size
    clear og kg
    go_wp2_with fail
    obtain ⟨_, _, e1, k1⟩ := Og.out.came
    obtain ⟨_, _, e2, k2⟩ := Or.out.came
    cases e1
    cases e2
    refine (eqInt_yes _ _ R.length _ _ R _ k1 k2 HRL.out).mono ?_
    clear k1 k2
    rintro e w5 ⟨rfl, ke⟩
    have Opn := Lib.hid (Op.out.below ke (Nat.le_refl _))
    clear Op
    have Op := Opn
    clear Opn
    have Orn := Lib.hid (Or.out.below ke (Nat.le_refl _))
    clear Or
    have Or := Orn
    clear Orn
    have Oxn := Lib.hid (Ox.out.below ke (Nat.le_refl _))
    clear Ox
    have Ox := Oxn
    clear Oxn
    have Ogn := Lib.hid (Og.out.below ke (Nat.le_refl _))
    clear Og
    have Og := Ogn
    clear Ogn
    have BBn := Lib.hid (BB.out.trans (ke.mono BB.out.size))
    clear BB
    have BB := BBn
    clear BBn
    have SE1 := Lib.hid ke.size
    clear ke
    go_wp2_with fail
    refine (toInt_any ad len cap L _ (HA.out.below BB.out (Nat.le_refl _)) HN.out).mono ?_
    rintro e w6 ⟨vy, rfl, oy, ky⟩
    obtain ⟨ay, cy, rfl, _⟩ := oy.came
    have Opn := Lib.hid (Op.out.below ky (Nat.le_refl _))
    clear Op
    have Op := Opn
    clear Opn
    have Orn := Lib.hid (Or.out.below ky (Nat.le_refl _))
    clear Or
    have Or := Orn
    clear Orn
    have Oxn := Lib.hid (Ox.out.below ky (Nat.le_refl _))
    clear Ox
    have Ox := Oxn
    clear Oxn
    have Ogn := Lib.hid (Og.out.below ky (Nat.le_refl _))
    clear Og
    have Og := Ogn
    clear Ogn
    have BBn := Lib.hid (BB.out.trans (ky.mono BB.out.size))
    clear BB
    have BB := BBn
    clear BBn
    have Oy := Lib.hid oy
    have Ny := Lib.hid oy.rng
    have Sy := Lib.hid ky.size
    clear oy ky
    go_wp2_with fail
    obtain ⟨_, _, e1, k1⟩ := Ox.out.came
    obtain ⟨_, _, e2, k2⟩ := Oy.out.came
    cases e1
    cases e2
    refine (eqInt_yes _ _ L.length _ _ L _ k1 k2 (by rw [HL.out]; exact HN.out)).mono ?_
    clear k1 k2
    rintro e w7 ⟨rfl, ke⟩
    have Opn := Lib.hid (Op.out.below ke (Nat.le_refl _))
    clear Op
    have Op := Opn
    clear Opn
    have Orn := Lib.hid (Or.out.below ke (Nat.le_refl _))
    clear Or
    have Or := Orn
    clear Orn
    have Oxn := Lib.hid (Ox.out.below ke (Nat.le_refl _))
    clear Ox
    have Ox := Oxn
    clear Oxn
    have Ogn := Lib.hid (Og.out.below ke (Nat.le_refl _))
    clear Og
    have Og := Ogn
    clear Ogn
    have Oyn := Lib.hid (Oy.out.below ke (Nat.le_refl _))
    clear Oy
    have Oy := Oyn
    clear Oyn
    have BBn := Lib.hid (BB.out.trans (ke.mono BB.out.size))
    clear BB
    have BB := BBn
    clear BBn
    have SE2 := Lib.hid ke.size
    clear ke
    go_wp2_with fail
    refine (mark_any _ _ L _ Ox.out (by rw [HL.out]; exact HN.out)).mono ?_
    rintro e w8 ⟨rfl, om, gm⟩
    have Opn := Lib.hid (Op.out.grown gm Np.out (fun k hk => by have h1 := Nx.out k hk; have := Sp.out; have := Sr.out; have := Sx.out; have := Sg.out; have := SE1.out; have := Sy.out; have := SE2.out; omega))
    clear Op
    have Op := Opn
    clear Opn
    have Orn := Lib.hid (Or.out.grown gm Nr.out (fun k hk => by have h1 := Nx.out k hk; have := Sp.out; have := Sr.out; have := Sx.out; have := Sg.out; have := SE1.out; have := Sy.out; have := SE2.out; omega))
    clear Or
    have Or := Orn
    clear Orn
    have Ogn := Lib.hid (Og.out.grown gm Ng.out (fun k hk => by have h1 := Nx.out k hk; have := Sp.out; have := Sr.out; have := Sx.out; have := Sg.out; have := SE1.out; have := Sy.out; have := SE2.out; omega))
    clear Og
    have Og := Ogn
    clear Ogn
    have Oyn := Lib.hid (Oy.out.grown gm Ny.out (fun k hk => by have h1 := Nx.out k hk; have := Sp.out; have := Sr.out; have := Sx.out; have := Sg.out; have := SE1.out; have := Sy.out; have := SE2.out; omega))
    clear Oy
    have Oy := Oyn
    clear Oyn
    have BBn := Lib.hid (BB.out.grown gm BB.out.size (fun k hk => by have h1 := Nx.out k hk; have := Sp.out; have := Sr.out; have := Sx.out; have := Sg.out; have := SE1.out; have := Sy.out; have := SE2.out; omega))
    have SMx := Lib.hid gm.size
    clear BB Ox gm
    have BB := BBn
    clear BBn
    have Ox := Lib.hid om
    clear om
    go_wp2_with fail
    obtain ⟨_, _, e1, k1⟩ := Og.out.came
    obtain ⟨_, _, e2, k2⟩ := Or.out.came
    cases e1
    cases e2
    refine (eqInt_yes _ _ R.length _ _ R _ k1 k2 HRL.out).mono ?_
    clear k1 k2
    rintro e w9 ⟨rfl, ke⟩
    have Opn := Lib.hid (Op.out.below ke (Nat.le_refl _))
    clear Op
    have Op := Opn
    clear Opn
    have Orn := Lib.hid (Or.out.below ke (Nat.le_refl _))
    clear Or
    have Or := Orn
    clear Orn
    have Ogn := Lib.hid (Og.out.below ke (Nat.le_refl _))
    clear Og
    have Og := Ogn
    clear Ogn
    have Oyn := Lib.hid (Oy.out.below ke (Nat.le_refl _))
    clear Oy
    have Oy := Oyn
    clear Oyn
    have BBn := Lib.hid (BB.out.trans (ke.mono BB.out.size))
    clear BB
    have BB := BBn
    clear BBn
    have SE3 := Lib.hid ke.size
    clear ke
    go_wp2_with fail
    refine (mark_any _ _ R _ Og.out HRL.out).mono ?_
    rintro e w10 ⟨rfl, om, gm⟩
    have Opn := Lib.hid (Op.out.grown gm Np.out (fun k hk => by have h1 := Ng.out k hk; have := Sp.out; have := Sr.out; have := Sx.out; have := Sg.out; have := SE1.out; have := Sy.out; have := SE2.out; have := SMx.out; have := SE3.out; omega))
    clear Op
    have Op := Opn
    clear Opn
    have Orn := Lib.hid (Or.out.grown gm Nr.out (fun k hk => by have h1 := Ng.out k hk; have := Sp.out; have := Sr.out; have := Sx.out; have := Sg.out; have := SE1.out; have := Sy.out; have := SE2.out; have := SMx.out; have := SE3.out; omega))
    clear Or
    have Or := Orn
    clear Orn
    have Oyn := Lib.hid (Oy.out.grown gm Ny.out (fun k hk => by have h1 := Ng.out k hk; have := Sp.out; have := Sr.out; have := Sx.out; have := Sg.out; have := SE1.out; have := Sy.out; have := SE2.out; have := SMx.out; have := SE3.out; omega))
    clear Oy
    have Oy := Oyn
    clear Oyn
    have BBn := Lib.hid (BB.out.grown gm BB.out.size (fun k hk => by have h1 := Ng.out k hk; have := Sp.out; have := Sr.out; have := Sx.out; have := Sg.out; have := SE1.out; have := Sy.out; have := SE2.out; have := SMx.out; have := SE3.out; omega))
    have SMg := Lib.hid gm.size
    clear BB Og gm
    have BB := BBn
    clear BBn
    have Og := Lib.hid om
    clear om
    go_wp2_with fail
    obtain ⟨_, _, e1, k1⟩ := Og.out.came
    rw [marks_len] at e1 k1
    cases e1
    refine (held_any _ R.length _ _ k1 HRL.out).mono ?_
    clear k1
    rintro e wq ⟨rfl, rfl⟩
    go_wp2_with fail
    refine (toInt_any ad len cap L _ (HA.out.below BB.out (Nat.le_refl _)) HN.out).mono ?_
    rintro e w11 ⟨vz, rfl, oz, kz⟩
    obtain ⟨az, cz, rfl, _⟩ := oz.came
    have Opn := Lib.hid (Op.out.below kz (Nat.le_refl _))
    clear Op
    have Op := Opn
    clear Opn
    have Orn := Lib.hid (Or.out.below kz (Nat.le_refl _))
    clear Or
    have Or := Orn
    clear Orn
    have Ogn := Lib.hid (Og.out.below kz (Nat.le_refl _))
    clear Og
    have Og := Ogn
    clear Ogn
    have Oyn := Lib.hid (Oy.out.below kz (Nat.le_refl _))
    clear Oy
    have Oy := Oyn
    clear Oyn
    have BBn := Lib.hid (BB.out.trans (kz.mono BB.out.size))
    clear BB
    have BB := BBn
    clear BBn
    have Oz := Lib.hid oz
    have Nz := Lib.hid oz.rng
    have Sz := Lib.hid kz.size
    clear oz kz
    go_wp2_with fail
    refine (HI.out (by rw [HL.out]; exact HN.out) _ _ (Oz.out.mono (Nat.zero_le _))).mono ?_
    rintro e w12 ⟨vh, rfl, oh, kh⟩
    obtain ⟨ah, ch, rfl, _⟩ := oh.came
    have Opn := Lib.hid (Op.out.below kh (Nat.le_refl _))
    clear Op
    have Op := Opn
    clear Opn
    have Orn := Lib.hid (Or.out.below kh (Nat.le_refl _))
    clear Or
    have Or := Orn
    clear Orn
    have Ogn := Lib.hid (Og.out.below kh (Nat.le_refl _))
    clear Og
    have Og := Ogn
    clear Ogn
    have Oyn := Lib.hid (Oy.out.below kh (Nat.le_refl _))
    clear Oy
    have Oy := Oyn
    clear Oyn
    have Ozn := Lib.hid (Oz.out.below kh (Nat.le_refl _))
    clear Oz
    have Oz := Ozn
    clear Ozn
    have BBn := Lib.hid (BB.out.trans (kh.mono BB.out.size))
    clear BB
    have BB := BBn
    clear BBn
    have Oh := Lib.hid oh
    have Nh := Lib.hid oh.rng
    have Sh := Lib.hid kh.size
    clear oh kh
    go_wp2_with fail
    obtain ⟨_, _, e1, k1⟩ := Oh.out.came
    obtain ⟨_, _, e2, k2⟩ := Or.out.came
    cases e1
    cases e2
    refine (eqInt_yes _ _ R.length _ _ R _ k1 k2 HRL.out).mono ?_
    clear k1 k2
    rintro e w13 ⟨rfl, ke⟩
    have Opn := Lib.hid (Op.out.below ke (Nat.le_refl _))
    clear Op
    have Op := Opn
    clear Opn
    have Orn := Lib.hid (Or.out.below ke (Nat.le_refl _))
    clear Or
    have Or := Orn
    clear Orn
    have Ogn := Lib.hid (Og.out.below ke (Nat.le_refl _))
    clear Og
    have Og := Ogn
    clear Ogn
    have Oyn := Lib.hid (Oy.out.below ke (Nat.le_refl _))
    clear Oy
    have Oy := Oyn
    clear Oyn
    have Ozn := Lib.hid (Oz.out.below ke (Nat.le_refl _))
    clear Oz
    have Oz := Ozn
    clear Ozn
    have Ohn := Lib.hid (Oh.out.below ke (Nat.le_refl _))
    clear Oh
    have Oh := Ohn
    clear Ohn
    have BBn := Lib.hid (BB.out.trans (ke.mono BB.out.size))
    clear BB
    have BB := BBn
    clear BBn
    have SE4 := Lib.hid ke.size
    clear ke
    go_wp2_with fail
    obtain ⟨_, _, e1, k1⟩ := Og.out.came
    rw [marks_len] at e1 k1
    cases e1
    refine (held_any _ R.length _ _ k1 HRL.out).mono ?_
    clear k1
    rintro e wq ⟨rfl, rfl⟩
    go_wp2_with fail
    go_ret
    exact ⟨rfl, BB.out⟩
end Go.Proofs.Ytlkgdfednejhiaa
