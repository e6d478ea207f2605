/- The law of apertures: what program and model answer is the same; codes of Legendre are balanced, shadows of small whole numbers are decoded exactly. Condition: a code that can be read. -/
import Derived.Test.YtclflnpbiiimiaaAp
import Derived.Deep.CutBlock
import Derived.Deep.DeepCutAuto
namespace Go.Proofs.Ytclflnpbiiimiaa
open Go Go.RowKit Ieee

set_option maxRecDepth 100000 in
set_option maxHeartbeats 3200000 in
theorem apertures_walk (ad : Option Addr) (len cap : Nat) (w : World) (hc : Code ad len w) (hb : ¬ 4096 < len) :
    Calls Try.prog 3 #[.slice ad len cap] w fun e w' => e = .returned (.bool true) ∧ Below w.heap.size w w' := by
  have hd : decide (4096 < len) = false := by simp; omega
  have HC := Lib.hid hc
  clear hc
  go_enter Try.func3, Try.ntmps3
  go_wp2_with fail
  refine (big_any _ _ _ _).mono ?_
  rw [hd]
  rintro e w' ⟨rfl, rfl⟩
  clear hd hb
  go_wp2_with fail
  refine (drawLc_any ad len cap _ HC.out).mono ?_
  rintro e w1 ⟨p, rfl, b1⟩
  have B1 := Lib.hid b1
  clear b1
  obtain ⟨n1, L1, c1, l1, s1, h1, i1, m1, k1⟩ := bothLc p
  have HL1 := Lib.hid l1
  have HN1 := Lib.hid s1
  have HA1 := Lib.hid h1
  have HI1 := Lib.hid i1
  have HM1 := Lib.hid m1
  have HK1 := Lib.hid k1
  have hcc1 : (c1 != c1) = false := by simp
  clear l1 s1 h1 i1 m1 k1
  go_wp2_with fail
  refine (HI1.out _).mono ?_
  rintro e v0 ⟨a1, p1, rfl, o1, b2⟩
  have HO1 : Hid (∀ u, Below v0.heap.size v0 u → OwnF 0 (.slice a1 n1 p1) L1 u) := Lib.hid fun u hu => (o1.mono (Nat.zero_le _)).below hu (Nat.le_refl _)
  have B0 := Lib.hid (B1.out.trans (b2.mono B1.out.size))
  have HCV : Hid (∀ u, Below v0.heap.size v0 u → Code ad len u) := Lib.hid fun u hu => (HC.out.below (w' := u) (B0.out.trans (hu.mono B0.out.size)))
  clear o1 b2 B1
  go_wp2_with fail
  refine (HM1.out _).mono ?_
  rintro e w3 ⟨a2, p2, rfl, o2, b3⟩
  have K := Lib.hid b3
  have O2 := Lib.hid o2
  clear o2 b3 HI1 HM1
  go_wp2_with fail
  refine (same_lists n1 L1 HL1.out HN1.out HA1.out (HO1.out _ K.out) O2.out).mono ?_
  rintro e w4 ⟨rfl, d, rfl⟩
  have K4 := Lib.hid (below_drewN K.out d)
  generalize w3.drewN d = w4 at *
  clear K O2 HA1
  go_wp2_with fail
  refine (drawSh_any ad len cap _ (HCV.out _ K4.out)).mono ?_
  rintro e x2 ⟨v2, A2, rfl, ha2, o, b⟩
  obtain ⟨ad2, cp2, rfl, _⟩ := o.came
  have KD2 := Lib.hid (K4.out.trans (b.mono K4.out.size))
  have OD2 := Lib.hid (o.mono (Nat.zero_le _))
  clear o b K4
  obtain ⟨n2, L2, c2, l, s, h, i, m⟩ := bothSh A2 ha2
  have HL2 := Lib.hid l
  have HN2 := Lib.hid s
  have HA2 := Lib.hid h
  have HI2 := Lib.hid i
  have HM2 := Lib.hid m
  have hcc2 : (c2 != c2) = false := by simp
  clear l s h i m ha2
  generalize A2.length = q2 at *
  go_wp2_with fail
  refine (HI2.out _ _ OD2.out).mono ?_
  rintro e y2 ⟨ai2, pi2, rfl, o, b⟩
  have KI2 := Lib.hid (KD2.out.trans (b.mono KD2.out.size))
  have OI2 := Lib.hid o
  have OE2 := Lib.hid (OD2.out.below b (Nat.le_refl _))
  clear o b KD2 OD2 HI2
  go_wp2_with fail
  refine (HM2.out _ _ OE2.out).mono ?_
  rintro e z2 ⟨am2, pm2, rfl, o, b⟩
  have KM2 := Lib.hid (KI2.out.trans (b.mono KI2.out.size))
  have OM2 := Lib.hid o
  have OJ2 := Lib.hid (OI2.out.below b (Nat.le_refl _))
  clear o b KI2 OI2 OE2 HM2
  go_wp2_with fail
  refine (same_lists n2 L2 HL2.out HN2.out HA2.out OJ2.out OM2.out).mono ?_
  rintro e u2 ⟨rfl, d, rfl⟩
  have KN2 := Lib.hid (below_drewN KM2.out d)
  generalize z2.drewN d = u2 at *
  clear KM2 OJ2 OM2 HL2 HN2 HA2
  go_wp2_with fail
  refine (drawDc_any ad len cap _ (HCV.out _ KN2.out)).mono ?_
  rintro e x3 ⟨v3, A3, rfl, ha3, o, b⟩
  obtain ⟨ad3, cp3, rfl, _⟩ := o.came
  have KD3 := Lib.hid (KN2.out.trans (b.mono KN2.out.size))
  have OD3 := Lib.hid (o.mono (Nat.zero_le _))
  clear o b KN2
  obtain ⟨n3, L3, c3, l, s, h, i, m⟩ := bothDc A3 ha3
  have HL3 := Lib.hid l
  have HN3 := Lib.hid s
  have HA3 := Lib.hid h
  have HI3 := Lib.hid i
  have HM3 := Lib.hid m
  have hcc3 : (c3 != c3) = false := by simp
  clear l s h i m ha3
  generalize A3.length = q3 at *
  go_wp2_with fail
  refine (HI3.out _ _ OD3.out).mono ?_
  rintro e y3 ⟨ai3, pi3, rfl, o, b⟩
  have KI3 := Lib.hid (KD3.out.trans (b.mono KD3.out.size))
  have OI3 := Lib.hid o
  have OE3 := Lib.hid (OD3.out.below b (Nat.le_refl _))
  clear o b KD3 OD3 HI3
  go_wp2_with fail
  refine (HM3.out _ _ OE3.out).mono ?_
  rintro e z3 ⟨am3, pm3, rfl, o, b⟩
  have KM3 := Lib.hid (KI3.out.trans (b.mono KI3.out.size))
  have OM3 := Lib.hid o
  have OJ3 := Lib.hid (OI3.out.below b (Nat.le_refl _))
  clear o b KI3 OI3 OE3 HM3
  go_wp2_with fail
  refine (same_lists n3 L3 HL3.out HN3.out HA3.out OJ3.out OM3.out).mono ?_
  rintro e u3 ⟨rfl, d, rfl⟩
  have KN3 := Lib.hid (below_drewN KM3.out d)
  generalize z3.drewN d = u3 at *
  clear KM3 OJ3 OM3 HL3 HN3 HA3
  go_wp2_with fail
  refine (drawCl_any ad len cap _ (HCV.out _ KN3.out)).mono ?_
  rintro e x4 ⟨v4, t4, A4, B4, rfl, ha4, hb4, o, r, b⟩
  obtain ⟨ad4, cp4, rfl, _⟩ := o.came
  obtain ⟨bd4, dp4, rfl, _⟩ := r.came
  have KD4 := Lib.hid (KN3.out.trans (b.mono KN3.out.size))
  have OD4 := Lib.hid (o.mono (Nat.zero_le _))
  have RD4 := Lib.hid (r.mono (Nat.zero_le _))
  clear o r b KN3
  obtain ⟨n4, L4, c4, l, s, h, i, m⟩ := bothCl A4 B4 ha4 hb4
  have HL4 := Lib.hid l
  have HN4 := Lib.hid s
  have HA4 := Lib.hid h
  have HI4 := Lib.hid i
  have HM4 := Lib.hid m
  have hcc4 : (c4 != c4) = false := by simp
  clear l s h i m ha4 hb4
  generalize A4.length = q4 at *
  generalize B4.length = r4 at *
  go_wp2_with fail
  refine (HI4.out _ _ _ OD4.out RD4.out).mono ?_
  rintro e y4 ⟨ai4, pi4, rfl, o, b⟩
  have KI4 := Lib.hid (KD4.out.trans (b.mono KD4.out.size))
  have OI4 := Lib.hid o
  have OE4 := Lib.hid (OD4.out.below b (Nat.le_refl _))
  have RE4 := Lib.hid (RD4.out.below b (Nat.le_refl _))
  clear o b KD4 OD4 RD4 HI4
  go_wp2_with fail
  refine (HM4.out _ _ _ OE4.out RE4.out).mono ?_
  rintro e z4 ⟨am4, pm4, rfl, o, b⟩
  have KM4 := Lib.hid (KI4.out.trans (b.mono KI4.out.size))
  have OM4 := Lib.hid o
  have OJ4 := Lib.hid (OI4.out.below b (Nat.le_refl _))
  clear o b KI4 OI4 OE4 RE4 HM4
  go_wp2_with fail
  refine (same_lists n4 L4 HL4.out HN4.out HA4.out OJ4.out OM4.out).mono ?_
  rintro e u4 ⟨rfl, d, rfl⟩
  have KN4 := Lib.hid (below_drewN KM4.out d)
  generalize z4.drewN d = u4 at *
  clear KM4 OJ4 OM4 HL4 HN4 HA4
  go_wp2_with fail
  refine (drawIb_any ad len cap _ (HCV.out _ KN4.out)).mono ?_
  rintro e x5 ⟨v5, A5, rfl, ha5, o, b⟩
  obtain ⟨ad5, cp5, rfl, _⟩ := o.came
  have KD5 := Lib.hid (KN4.out.trans (b.mono KN4.out.size))
  have OD5 := Lib.hid (o.mono (Nat.zero_le _))
  clear o b KN4
  obtain ⟨b5, c5, i, m⟩ := bothIb A5 ha5
  have HI5 := Lib.hid i
  have HM5 := Lib.hid m
  have hcc5 : (c5 != c5) = false := by simp
  have hbb5 : (b5 != b5) = false := by simp
  clear i m ha5
  generalize A5.length = q5 at *
  go_wp2_with fail
  refine (HI5.out _ _ OD5.out).mono ?_
  rintro e y5 ⟨rfl, b⟩
  have KI5 := Lib.hid (KD5.out.trans (b.mono KD5.out.size))
  have OE5 := Lib.hid (OD5.out.below b (Nat.le_refl _))
  clear b KD5 OD5 HI5
  go_wp2_with fail
  refine (HM5.out _ _ OE5.out).mono ?_
  rintro e z5 ⟨rfl, b⟩
  have KM5 := Lib.hid (KI5.out.trans (b.mono KI5.out.size))
  clear b KI5 OE5 HM5
  rcases HK1.out with ⟨rfl, q, rfl, hq, rfl⟩ | ⟨rfl, rfl⟩
  · have hll := HL1.out
    rw [legs_len] at hll
    subst hll
    have HQ := Lib.hid hq
    clear HK1 HL1 HN1
    go_wp2_with fail
    refine (legs_balanced q HQ.out _ _ (HO1.out _ KM5.out)).mono ?_
    rintro e w5 ⟨rfl, b⟩
    have K5 := Lib.hid (KM5.out.trans (b.mono KM5.out.size))
    clear b KM5
    have HCC := Lib.hid (HCV.out _ K5.out)
    clear HCV HO1
    go_wp2_with fail
    refine (roll_of 9711 (by omega) (by omega) ad len cap _ HCC.out).mono ?_
    rintro e w6 ⟨g, rfl, hg, hg2, dc, b⟩
    have K6 := Lib.hid (K5.out.trans (b.mono K5.out.size))
    have HG : Hid (v0.heap.size ≤ g) := Lib.hid (Nat.le_trans K5.out.size hg)
    have hq64 : q ≤ 64 := by have := pr_len HQ.out; omega
    clear b K5 HCC hg hg2
    go_wp2_with fail
    refine (numbers9_any g q hq64 _ dc).mono ?_
    rintro e w7 ⟨v, A, Z, rfl, hA, hZ, o, _, t⟩
    obtain ⟨ao, po, rfl, _⟩ := o.came
    have K7 := Lib.hid (t.after K6.out HG.out (Nat.le_refl _))
    rw [hA] at o ⊢
    have O7 := Lib.hid (o.mono (Nat.zero_le _))
    have HZ := Lib.hid hZ
    have HA := Lib.hid hA
    obtain ⟨T, R, hR, hRw, hsh, hde⟩ := there_home A Z q hA HQ.out hZ
    obtain ⟨R2, hR2, hRw2, hco⟩ := same_first A Z q hA (by have := pr_len HQ.out; omega) hq64 hZ
    have HR := Lib.hid hRw
    have HR2 := Lib.hid hRw2
    have HSH := Lib.hid hsh
    have HDE := Lib.hid hde
    have HCO := Lib.hid hco
    clear hA hZ o t dc K6 HG hR hRw hR2 hRw2 hsh hde hco
    go_wp2_with fail
    refine (HSH.out _ _ O7.out).mono ?_
    rintro e w8 ⟨at8, pt8, rfl, o, b⟩
    have K8 := Lib.hid (K7.out.trans (b.mono K7.out.size))
    have O8 := Lib.hid (O7.out.below b (Nat.le_refl _))
    have T8 := Lib.hid (o.mono (Nat.zero_le _))
    clear o b K7 O7 HSH
    go_wp2_with fail
    refine (HDE.out _ _ T8.out).mono ?_
    rintro e w9 ⟨at9, pt9, rfl, o, b⟩
    have K9 := Lib.hid (K8.out.trans (b.mono K8.out.size))
    have O9 := Lib.hid (O8.out.below b (Nat.le_refl _))
    have R9 := Lib.hid (o.mono (Nat.zero_le _))
    clear o b K8 O8 T8 HDE
    have hq1 : 1 ≤ q := by have := pr_len HQ.out; omega
    obtain ⟨i0, hi, hz0, hz1, hz2⟩ := info_parts infoF
    go_wp2_with (refine wpList_make_full _ rfl _ _ 25 rfl w9.heap.size 40 i0 (.float .f32 0) 1 Try.underlying25 hi hz0 hz1 .i64 .i64 q q q rfl rfl rfl rfl ?b2 ?b3 (Nat.le_refl _) ?_)
    case b2 => rw [hz2]; omega
    case b3 => unfold maxLen; omega
    intro w10 hown hgrow
    have e : (madeCells #[Value.float .f32 0] q).toList = (List.replicate q 0).map (Value.float .f32) := by
      rw [toList_madeCells_one]
      simp
    rw [e] at hown
    have bw : Below w9.heap.size w9 w10 := (Below.refl _ _).grown hgrow (Nat.le_refl _) (fun k hk => by cases hk)
    have o10 : OwnF w9.heap.size (.slice (some ⟨w9.heap.size, 0, none⟩) (List.replicate q 0).length q) (List.replicate q 0) w10 := by
      unfold OwnF
      rw [List.length_replicate]
      exact hown
    have cw := o10.cell 0 (by rw [List.length_replicate]; omega)
    have fw := o10.free 0
    have O11 := Lib.hid (o10.stored 0 plusOne)
    rw [List.length_replicate] at O11
    have B11 : Hid (Below w9.heap.size w9 (w10.setCell ⟨w9.heap.size, 0, none⟩ (.float .f32 plusOne))) := Lib.hid (bw.setCell (p := ⟨w9.heap.size, 0, none⟩) (Nat.le_refl _) _)
    have K11 := Lib.hid (K9.out.trans (B11.out.mono K9.out.size))
    have A11 := Lib.hid (O9.out.below B11.out (Nat.le_refl _))
    have R11 := Lib.hid (R9.out.below B11.out (Nat.le_refl _))
    have F11 := Lib.hid (O11.out.mono (Nat.zero_le _))
    generalize (List.replicate q 0).getD 0 0 = y at *
    clear hown hgrow e bw o10 B11 K9 O9 R9 O11 hi hz0 hz1 hz2
    unfold plusOne at K11 A11 R11 F11
    go_wp2_with fail
    refine (HCO.out _ _ _ F11.out A11.out).mono ?_
    rintro e w12 ⟨at12, pt12, rfl, o, b⟩
    have K12 := Lib.hid (K11.out.trans (b.mono K11.out.size))
    have A12 := Lib.hid (A11.out.below b (Nat.le_refl _))
    have R12 := Lib.hid (R11.out.below b (Nat.le_refl _))
    have S12 := Lib.hid (o.mono (Nat.zero_le _))
    clear o b K11 A11 R11 F11 HCO
    have HZW : Hid (∀ i, i < q → Wh (Z i) (A.getD i 0)) := Lib.hid fun i hi => (HZ.out i (by rw [HA.out]; exact hi)).1
    go_wp2_with fail
    refine (whole_lists q R A Z hq64 HR.out HZW.out R12.out A12.out).mono ?_
    rintro e w13 ⟨rfl, d, rfl⟩
    have K13 := Lib.hid (below_drewN K12.out d)
    have A13 : Hid (OwnF 0 (.slice ao q po) A (w12.drewN d)) := Lib.hid A12.out
    have S13 : Hid (OwnF 0 (.slice at12 q pt12) R2 (w12.drewN d)) := Lib.hid S12.out
    generalize w12.drewN d = w13 at *
    clear K12 A12 R12 S12
    go_wp2_with fail
    refine (whole_lists q R2 A Z hq64 HR2.out HZW.out S13.out A13.out).mono ?_
    rintro e w14 ⟨rfl, d, rfl⟩
    have K14 := Lib.hid (below_drewN K13.out d)
    generalize w13.drewN d = w14 at *
    go_wp2_with fail
    go_ret
    exact ⟨rfl, B0.out.trans (K14.out.mono B0.out.size)⟩
  · clear HK1 HL1 HN1 HO1
    go_wp2_with fail
    go_ret
    exact ⟨rfl, B0.out.trans (KM5.out.mono B0.out.size)⟩

end Go.Proofs.Ytclflnpbiiimiaa
