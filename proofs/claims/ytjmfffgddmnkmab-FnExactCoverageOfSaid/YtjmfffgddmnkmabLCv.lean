/- What the law of CoverageOf does with the lists: it returns true where program and model answer one list and one code. Condition: these answers. -/
import Derived.Test.YtjmfffgddmnkmabCs
import Derived.Test.YtjmfffgddmnkmabCi
import Derived.Lib.Hide
namespace Go.Proofs.Ytjmfffgddmnkmab
open Go Go.RowKit

theorem szP_big (ad : Option Addr) (len cap : Nat) (h : 1048576 < len) (hm : len ≤ 9223372036854775807) (w : World) :
    Calls Try.prog 44 #[.slice ad len cap, .int .i64 1048576] w fun e w' => e = .returned (.int .i64 (-1)) ∧ w = w' := by
  have hw : IntKind.i64.wrap (1048576 - (len : Int)) = 1048576 - (len : Int) := IntWalk.i64_in _ (by omega)
  have hd : decide (1048576 - (len : Int) < 0) = true := by simp; omega
  go_enter Try.func44, Try.ntmps44
  go_wp2
  go_ret
  exact ⟨rfl, rfl⟩
theorem szP_any (ad : Option Addr) (len cap : Nat) (h : len ≤ 1048576) (w : World) :
    Calls Try.prog 44 #[.slice ad len cap, .int .i64 1048576] w fun e w' => e = .returned (.int .i64 (1048576 - (len : Int))) ∧ w = w' := by
  have hw : IntKind.i64.wrap (1048576 - (len : Int)) = 1048576 - (len : Int) := IntWalk.i64_in _ (by omega)
  have hd : decide (1048576 - (len : Int) < 0) = false := by simp; omega
  go_enter Try.func44, Try.ntmps44
  go_wp2
  go_ret
  exact ⟨rfl, rfl⟩

set_option maxRecDepth 100000 in
set_option maxHeartbeats 1600000 in
theorem lawCv_of (n m : Int) (ad : Option Addr) (len cap : Nat) (F R : List Int) (c : Int) (w : World) (hA : CameP ad len F w) (hm : len ≤ 9223372036854775807) (hR : R.length ≤ 1048576)
    (HS : Hid (Covs 45 n m len F R c)) (HI : Hid (Covs 47 n m len F R c)) :
    Calls Try.prog 8 #[.int .i64 n, .int .i64 m, .slice ad len cap] w fun e w' => e = .returned (.bool true) ∧ Below w.heap.size w w' := by
  by_cases hbig : 1048576 < len
  · go_enter Try.func8, Try.ntmps8
    go_wp2_with fail
    refine (szP_big ad len cap hbig hm _).mono ?_
    rintro e w1 ⟨rfl, rfl⟩
    go_wp2_with fail
    go_ret
    exact ⟨rfl, Below.refl _ _⟩
  · have hn : len ≤ 1048576 := by omega
    have HA := Lib.hid hA
    have hcc : (c != c) = false := by simp
    have hmp : decide (1 + ((len * 2 : Nat) : Int) < 0) = false := by simp; omega
    have HN := Lib.hid hn
    have HRL := Lib.hid hR
    clear hA hn hR
    go_enter Try.func8, Try.ntmps8
    go_wp2_with fail
    refine (szP_any ad len cap HN.out _).mono ?_
    rintro e w0 ⟨rfl, rfl⟩
    have hq : decide (1048576 - (len : Int) < 0) = false := by have := HN.out; simp; omega
    go_wp2_with fail
    refine (toP_any ad len cap F _ HA.out HN.out).mono ?_
    rintro e w1 ⟨vp, rfl, op, kp⟩
    obtain ⟨ap, cp, rfl, _⟩ := op.came
    have BB := Lib.hid kp
    have Op := Lib.hid op
    have Np := Lib.hid op.rng
    have Sp := Lib.hid kp.size
    clear op kp
    go_wp2_with fail
    refine (HS.out HN.out _ _ (Op.out.mono (Nat.zero_le _))).mono ?_
    rintro e w2 ⟨vr, rfl, or, kr⟩
    obtain ⟨ar, cr, rfl, _⟩ := or.came
    have Opn := Lib.hid (Op.out.below kr (Nat.le_refl _))
    clear Op
    have Op := Opn
    clear Opn
    have BBn := Lib.hid (BB.out.trans (kr.mono BB.out.size))
    clear BB
    have BB := BBn
    clear BBn
    have Or := Lib.hid or
    have Nr := Lib.hid or.rng
    have Sr := Lib.hid kr.size
    clear or kr
    go_wp2_with fail
    refine (toP_any ad len cap F _ (HA.out.below BB.out (Nat.le_refl _)) HN.out).mono ?_
    rintro e w3 ⟨vx, rfl, ox, kx⟩
    obtain ⟨ax, cx, rfl, _⟩ := ox.came
    have Opn := Lib.hid (Op.out.below kx (Nat.le_refl _))
    clear Op
    have Op := Opn
    clear Opn
    have Orn := Lib.hid (Or.out.below kx (Nat.le_refl _))
    clear Or
    have Or := Orn
    clear Orn
    have BBn := Lib.hid (BB.out.trans (kx.mono BB.out.size))
    clear BB
    have BB := BBn
    clear BBn
    have Ox := Lib.hid ox
    have Nx := Lib.hid ox.rng
    have Sx := Lib.hid kx.size
    clear ox kx
    go_wp2_with fail
    refine (HI.out HN.out _ _ (Ox.out.mono (Nat.zero_le _))).mono ?_
    rintro e w4 ⟨vg, rfl, og, kg⟩
    obtain ⟨ag, cg, rfl, _⟩ := og.came
    have Opn := Lib.hid (Op.out.below kg (Nat.le_refl _))
    clear Op
    have Op := Opn
    clear Opn
    have Orn := Lib.hid (Or.out.below kg (Nat.le_refl _))
    clear Or
    have Or := Orn
    clear Orn
    have Oxn := Lib.hid (Ox.out.below kg (Nat.le_refl _))
    clear Ox
    have Ox := Oxn
    clear Oxn
    have BBn := Lib.hid (BB.out.trans (kg.mono BB.out.size))
    clear BB
    have BB := BBn
    clear BBn
    have Og := Lib.hid og
    have Ng := Lib.hid og.rng
    have Sg := Lib.hid kg.size
    clear og kg
    go_wp2_with fail
    obtain ⟨_, _, e1, k1⟩ := Og.out.came
    obtain ⟨_, _, e2, k2⟩ := Or.out.came
    cases e1
    cases e2
    refine (eqInt_yes _ _ R.length _ _ R _ k1 k2 HRL.out).mono ?_
    clear k1 k2
    rintro e w5 ⟨rfl, ke⟩
    have Opn := Lib.hid (Op.out.below ke (Nat.le_refl _))
    clear Op
    have Op := Opn
    clear Opn
    have Orn := Lib.hid (Or.out.below ke (Nat.le_refl _))
    clear Or
    have Or := Orn
    clear Orn
    have Oxn := Lib.hid (Ox.out.below ke (Nat.le_refl _))
    clear Ox
    have Ox := Oxn
    clear Oxn
    have Ogn := Lib.hid (Og.out.below ke (Nat.le_refl _))
    clear Og
    have Og := Ogn
    clear Ogn
    have BBn := Lib.hid (BB.out.trans (ke.mono BB.out.size))
    clear BB
    have BB := BBn
    clear BBn
    have SE1 := Lib.hid ke.size
    clear ke
    go_wp2_with fail
    refine (toP_any ad len cap F _ (HA.out.below BB.out (Nat.le_refl _)) HN.out).mono ?_
    rintro e w6 ⟨vy, rfl, oy, ky⟩
    obtain ⟨ay, cy, rfl, _⟩ := oy.came
    have Opn := Lib.hid (Op.out.below ky (Nat.le_refl _))
    clear Op
    have Op := Opn
    clear Opn
    have Orn := Lib.hid (Or.out.below ky (Nat.le_refl _))
    clear Or
    have Or := Orn
    clear Orn
    have Oxn := Lib.hid (Ox.out.below ky (Nat.le_refl _))
    clear Ox
    have Ox := Oxn
    clear Oxn
    have Ogn := Lib.hid (Og.out.below ky (Nat.le_refl _))
    clear Og
    have Og := Ogn
    clear Ogn
    have BBn := Lib.hid (BB.out.trans (ky.mono BB.out.size))
    clear BB
    have BB := BBn
    clear BBn
    have Oy := Lib.hid oy
    have Ny := Lib.hid oy.rng
    have Sy := Lib.hid ky.size
    clear oy ky
    go_wp2_with fail
    obtain ⟨_, _, e1, k1⟩ := Ox.out.came
    obtain ⟨_, _, e2, k2⟩ := Oy.out.came
    cases e1
    cases e2
    refine (eqP_yes _ _ len _ _ F _ k1 k2 HN.out).mono ?_
    clear k1 k2
    rintro e w7 ⟨rfl, ke⟩
    have Opn := Lib.hid (Op.out.below ke (Nat.le_refl _))
    clear Op
    have Op := Opn
    clear Opn
    have Orn := Lib.hid (Or.out.below ke (Nat.le_refl _))
    clear Or
    have Or := Orn
    clear Orn
    have Oxn := Lib.hid (Ox.out.below ke (Nat.le_refl _))
    clear Ox
    have Ox := Oxn
    clear Oxn
    have Ogn := Lib.hid (Og.out.below ke (Nat.le_refl _))
    clear Og
    have Og := Ogn
    clear Ogn
    have Oyn := Lib.hid (Oy.out.below ke (Nat.le_refl _))
    clear Oy
    have Oy := Oyn
    clear Oyn
    have BBn := Lib.hid (BB.out.trans (ke.mono BB.out.size))
    clear BB
    have BB := BBn
    clear BBn
    have SE2 := Lib.hid ke.size
    clear ke
    go_wp2_with fail
    refine (markP_any _ _ len F _ Ox.out HN.out).mono ?_
    rintro e w8 ⟨rfl, om, gm⟩
    have Opn := Lib.hid (Op.out.grown gm Np.out (fun k hk => by have h1 := Nx.out k hk; have := Sp.out; have := Sr.out; have := Sx.out; have := Sg.out; have := SE1.out; have := Sy.out; have := SE2.out; omega))
    clear Op
    have Op := Opn
    clear Opn
    have Orn := Lib.hid (Or.out.grown gm Nr.out (fun k hk => by have h1 := Nx.out k hk; have := Sp.out; have := Sr.out; have := Sx.out; have := Sg.out; have := SE1.out; have := Sy.out; have := SE2.out; omega))
    clear Or
    have Or := Orn
    clear Orn
    have Ogn := Lib.hid (Og.out.grown gm Ng.out (fun k hk => by have h1 := Nx.out k hk; have := Sp.out; have := Sr.out; have := Sx.out; have := Sg.out; have := SE1.out; have := Sy.out; have := SE2.out; omega))
    clear Og
    have Og := Ogn
    clear Ogn
    have Oyn := Lib.hid (Oy.out.grown gm Ny.out (fun k hk => by have h1 := Nx.out k hk; have := Sp.out; have := Sr.out; have := Sx.out; have := Sg.out; have := SE1.out; have := Sy.out; have := SE2.out; omega))
    clear Oy
    have Oy := Oyn
    clear Oyn
    have BBn := Lib.hid (BB.out.grown gm BB.out.size (fun k hk => by have h1 := Nx.out k hk; have := Sp.out; have := Sr.out; have := Sx.out; have := Sg.out; have := SE1.out; have := Sy.out; have := SE2.out; omega))
    have SMx := Lib.hid gm.size
    clear BB Ox gm
    have BB := BBn
    clear BBn
    have Ox := Lib.hid om
    clear om
    go_wp2_with fail
    obtain ⟨_, _, e1, k1⟩ := Og.out.came
    obtain ⟨_, _, e2, k2⟩ := Or.out.came
    cases e1
    cases e2
    refine (eqInt_yes _ _ R.length _ _ R _ k1 k2 HRL.out).mono ?_
    clear k1 k2
    rintro e w9 ⟨rfl, ke⟩
    have Opn := Lib.hid (Op.out.below ke (Nat.le_refl _))
    clear Op
    have Op := Opn
    clear Opn
    have Orn := Lib.hid (Or.out.below ke (Nat.le_refl _))
    clear Or
    have Or := Orn
    clear Orn
    have Ogn := Lib.hid (Og.out.below ke (Nat.le_refl _))
    clear Og
    have Og := Ogn
    clear Ogn
    have Oyn := Lib.hid (Oy.out.below ke (Nat.le_refl _))
    clear Oy
    have Oy := Oyn
    clear Oyn
    have BBn := Lib.hid (BB.out.trans (ke.mono BB.out.size))
    clear BB
    have BB := BBn
    clear BBn
    have SE3 := Lib.hid ke.size
    clear ke
    go_wp2_with fail
    refine (mark_any _ _ R _ Og.out HRL.out).mono ?_
    rintro e w10 ⟨rfl, om, gm⟩
    have Opn := Lib.hid (Op.out.grown gm Np.out (fun k hk => by have h1 := Ng.out k hk; have := Sp.out; have := Sr.out; have := Sx.out; have := Sg.out; have := SE1.out; have := Sy.out; have := SE2.out; have := SMx.out; have := SE3.out; omega))
    clear Op
    have Op := Opn
    clear Opn
    have Orn := Lib.hid (Or.out.grown gm Nr.out (fun k hk => by have h1 := Ng.out k hk; have := Sp.out; have := Sr.out; have := Sx.out; have := Sg.out; have := SE1.out; have := Sy.out; have := SE2.out; have := SMx.out; have := SE3.out; omega))
    clear Or
    have Or := Orn
    clear Orn
    have Oyn := Lib.hid (Oy.out.grown gm Ny.out (fun k hk => by have h1 := Ng.out k hk; have := Sp.out; have := Sr.out; have := Sx.out; have := Sg.out; have := SE1.out; have := Sy.out; have := SE2.out; have := SMx.out; have := SE3.out; omega))
    clear Oy
    have Oy := Oyn
    clear Oyn
    have BBn := Lib.hid (BB.out.grown gm BB.out.size (fun k hk => by have h1 := Ng.out k hk; have := Sp.out; have := Sr.out; have := Sx.out; have := Sg.out; have := SE1.out; have := Sy.out; have := SE2.out; have := SMx.out; have := SE3.out; omega))
    have SMg := Lib.hid gm.size
    clear BB Og gm
    have BB := BBn
    clear BBn
    have Og := Lib.hid om
    clear om
    go_wp2_with fail
    obtain ⟨_, _, e1, k1⟩ := Og.out.came
    rw [marks_len] at e1 k1
    cases e1
    refine (held_any _ R.length _ _ k1 HRL.out).mono ?_
    clear k1
    rintro e wq ⟨rfl, rfl⟩
    go_wp2_with fail
    refine (toP_any ad len cap F _ (HA.out.below BB.out (Nat.le_refl _)) HN.out).mono ?_
    rintro e w11 ⟨vz, rfl, oz, kz⟩
    obtain ⟨az, cz, rfl, _⟩ := oz.came
    have Opn := Lib.hid (Op.out.below kz (Nat.le_refl _))
    clear Op
    have Op := Opn
    clear Opn
    have Orn := Lib.hid (Or.out.below kz (Nat.le_refl _))
    clear Or
    have Or := Orn
    clear Orn
    have Ogn := Lib.hid (Og.out.below kz (Nat.le_refl _))
    clear Og
    have Og := Ogn
    clear Ogn
    have Oyn := Lib.hid (Oy.out.below kz (Nat.le_refl _))
    clear Oy
    have Oy := Oyn
    clear Oyn
    have BBn := Lib.hid (BB.out.trans (kz.mono BB.out.size))
    clear BB
    have BB := BBn
    clear BBn
    have Oz := Lib.hid oz
    have Nz := Lib.hid oz.rng
    have Sz := Lib.hid kz.size
    clear oz kz
    go_wp2_with fail
    refine (HI.out HN.out _ _ (Oz.out.mono (Nat.zero_le _))).mono ?_
    rintro e w12 ⟨vh, rfl, oh, kh⟩
    obtain ⟨ah, ch, rfl, _⟩ := oh.came
    have Opn := Lib.hid (Op.out.below kh (Nat.le_refl _))
    clear Op
    have Op := Opn
    clear Opn
    have Orn := Lib.hid (Or.out.below kh (Nat.le_refl _))
    clear Or
    have Or := Orn
    clear Orn
    have Ogn := Lib.hid (Og.out.below kh (Nat.le_refl _))
    clear Og
    have Og := Ogn
    clear Ogn
    have Oyn := Lib.hid (Oy.out.below kh (Nat.le_refl _))
    clear Oy
    have Oy := Oyn
    clear Oyn
    have Ozn := Lib.hid (Oz.out.below kh (Nat.le_refl _))
    clear Oz
    have Oz := Ozn
    clear Ozn
    have BBn := Lib.hid (BB.out.trans (kh.mono BB.out.size))
    clear BB
    have BB := BBn
    clear BBn
    have Oh := Lib.hid oh
    have Nh := Lib.hid oh.rng
    have Sh := Lib.hid kh.size
    clear oh kh
    go_wp2_with fail
    obtain ⟨_, _, e1, k1⟩ := Oh.out.came
    obtain ⟨_, _, e2, k2⟩ := Or.out.came
    cases e1
    cases e2
    refine (eqInt_yes _ _ R.length _ _ R _ k1 k2 HRL.out).mono ?_
    clear k1 k2
    rintro e w13 ⟨rfl, ke⟩
    have Opn := Lib.hid (Op.out.below ke (Nat.le_refl _))
    clear Op
    have Op := Opn
    clear Opn
    have Orn := Lib.hid (Or.out.below ke (Nat.le_refl _))
    clear Or
    have Or := Orn
    clear Orn
    have Ogn := Lib.hid (Og.out.below ke (Nat.le_refl _))
    clear Og
    have Og := Ogn
    clear Ogn
    have Oyn := Lib.hid (Oy.out.below ke (Nat.le_refl _))
    clear Oy
    have Oy := Oyn
    clear Oyn
    have Ozn := Lib.hid (Oz.out.below ke (Nat.le_refl _))
    clear Oz
    have Oz := Ozn
    clear Ozn
    have Ohn := Lib.hid (Oh.out.below ke (Nat.le_refl _))
    clear Oh
    have Oh := Ohn
    clear Ohn
    have BBn := Lib.hid (BB.out.trans (ke.mono BB.out.size))
    clear BB
    have BB := BBn
    clear BBn
    have SE4 := Lib.hid ke.size
    clear ke
    go_wp2_with fail
    obtain ⟨_, _, e1, k1⟩ := Og.out.came
    rw [marks_len] at e1 k1
    cases e1
    refine (held_any _ R.length _ _ k1 HRL.out).mono ?_
    clear k1
    rintro e wq ⟨rfl, rfl⟩
    go_wp2_with fail
    go_ret
    exact ⟨rfl, BB.out⟩

end Go.Proofs.Ytjmfffgddmnkmab
