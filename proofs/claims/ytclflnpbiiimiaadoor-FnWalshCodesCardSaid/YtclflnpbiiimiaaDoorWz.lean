/- The law of codes of Walsh: what program and model answer is the same; codes of Walsh are orthogonal, sums by codes and back are exact, measured pictures are found again. Condition: a code that can be read. -/
import Derived.Test.YtclflnpbiiimiaaDoorWy
import Derived.Deep.CutBlock
import Derived.Deep.DeepCutAuto
namespace Go.Proofs.YtclflnpbiiimiaaDoor
open Go Go.RowKit Ieee

theorem shl_any (t : Nat) (ht : t ≤ 6) (w : World) : (binOp .shl 2 (.int .i64 1) (.int .u64 (t : Int))).run Tryd.prog w = .ok (.int .i64 ((2 ^ t : Nat) : Int)) w := by
  have h : t = 0 ∨ t = 1 ∨ t = 2 ∨ t = 3 ∨ t = 4 ∨ t = 5 ∨ t = 6 := by omega
  rcases h with rfl | rfl | rfl | rfl | rfl | rfl | rfl <;> rfl

/-- a code of Walsh, told -/
theorem walsh_code (t q : Nat) (ht : t ≤ 6) (hq : q < 2 ^ t) (w : World) : Calls Tryd.prog 7 #[.int .i64 ((2 ^ t : Nat) : Int), .int .i64 (q : Int)] w (AnsL (2 ^ t) (walsh (2 ^ t) q) 0 w) := by
  have hl : lenI ((2 ^ t : Nat) : Int) = true := by
    have : ∀ m : Fin 7, lenI ((2 ^ m.val : Nat) : Int) = true := by decide +kernel
    exact this ⟨t, by omega⟩
  have hok : wcOk ((2 ^ t : Nat) : Int) (q : Int) = true := by
    unfold wcOk
    simp only [Bool.and_eq_true, decide_eq_true_eq]
    exact ⟨⟨hl, by omega⟩, by omega⟩
  have h := implWc ((2 ^ t : Nat) : Int) (q : Int) w
  rw [(wc_yes hok).1, (wc_yes hok).2, Int.toNat_natCast, Int.toNat_natCast] at h
  have h2 := h.mono fun e w' h => ansL_of h
  rw [walsh_len] at h2
  exact h2
theorem neq_cplx (x : Nat) (hf : fin x = true) (w : World) : (binOp .neq 32 (.complex .f32 x 0) (.complex .f32 x 0)).run Tryd.prog w = .ok (.bool false) w := by
  have h1 := self32 x hf
  have h2 : Op.floatEq .f32 0 0 = true := by decide
  have h3 : (FloatKind.f32.format.order x x == some .eq) = true := h1
  have h4 : (FloatKind.f32.format.order 0 0 == some .eq) = true := h2
  simp [binOp, Op.complexOp, Op.Complex.cmp, Op.floatCmp, asBool, h3, h4]
theorem pic_all (s : Int) (zs : Array Value) (hz : zs.size = 64) (h : zs.all (·.oneCell') = true) : (pic s zs).all (·.oneCell') = true := by
  rw [Array.all_eq_true] at h ⊢
  intro i hi
  rw [pic_size _ _ hz] at hi
  cases i with
  | zero =>
    have e := pic_zero s zs
    rw [Array.getElem?_eq_getElem (by rw [pic_size _ _ hz]; omega)] at e
    rw [Option.some.inj e]
    rfl
  | succ i =>
    have e := pic_succ s zs i
    rw [Array.getElem?_eq_getElem (by rw [pic_size _ _ hz]; omega), Array.getElem?_eq_getElem (by omega)] at e
    rw [Option.some.inj e]
    exact h i (by omega)

set_option maxRecDepth 100000 in
set_option maxHeartbeats 40000000 in
theorem walsh_walk (ad : Option Addr) (len cap : Nat) (w : World) (hc : Code ad len w) (hb : ¬ 4096 < len) :
    Calls Tryd.prog 3 #[.slice ad len cap] w fun e w' => e = .returned (.bool true) ∧ Below w.heap.size w w' := by
  have hd : decide (4096 < len) = false := by simp; omega
  have HC := Lib.hid hc
  have hzw := (zero_of_info info37').1
  have HSW := Lib.hid (zero_of_info info37').2
  have HZW : Hid ((pic 0 zc).size = 65) := Lib.hid (pic_size 0 zc zc_size)
  have hnw := pic_ne
  have hzp := (zero_of_info info32).1
  have HSP := Lib.hid (zero_of_info info32).2
  have HZP : Hid ((pic 0 zero64).size = 65) := Lib.hid (pic_size 0 zero64 (by simp [zero64]))
  have hnp : ¬ pic 0 zero64 = #[] := fun e => by
    have := congrArg Array.size e
    rw [pic_size 0 zero64 (by simp [zero64])] at this
    simp at this
  have HPS : Hid (∀ n : Int, (pic 0 zero64).setIfInBounds 0 (.int .i64 n) = pic n zero64) := Lib.hid (fun n => pic_set0 0 n zero64)
  generalize pic 0 zc = ZW at *
  generalize pic 0 zero64 = ZP at *
  clear hc
  go_enter Tryd.func3, Tryd.ntmps3
  go_wp2_with fail
  refine (big_any _ _ _ _).mono ?_
  rw [hd]
  rintro e w' ⟨rfl, rfl⟩
  clear hd hb
  go_wp2_with fail
  refine (drawWc_any ad len cap _ HC.out).mono ?_
  rintro e w1 ⟨n, k, rfl, b1⟩
  have B1 := Lib.hid b1
  clear b1
  obtain ⟨n1, L1, c1, l1, s1, h1, i1, m1, k1⟩ := bothWc n k
  have HL1 := Lib.hid l1
  have HN1 := Lib.hid s1
  have HA1 := Lib.hid h1
  have HI1 := Lib.hid i1
  have HM1 := Lib.hid m1
  have HK1 := Lib.hid k1
  have hcc1 : (c1 != c1) = false := by simp
  clear l1 s1 h1 i1 m1 k1
  go_wp2_with fail
  refine (HI1.out _).mono ?_
  rintro e v0 ⟨a1, p1, rfl, o1, b2⟩
  have HO1 : Hid (∀ u, Below v0.heap.size v0 u → OwnF 0 (.slice a1 n1 p1) L1 u) := Lib.hid fun u hu => (o1.mono (Nat.zero_le _)).below hu (Nat.le_refl _)
  have B0 := Lib.hid (B1.out.trans (b2.mono B1.out.size))
  have HCV : Hid (∀ u, Below v0.heap.size v0 u → Code ad len u) := Lib.hid fun u hu => (HC.out.below (w' := u) (B0.out.trans (hu.mono B0.out.size)))
  clear o1 b2 B1
  go_wp2_with fail
  refine (HM1.out _).mono ?_
  rintro e w3 ⟨a2, p2, rfl, o2, b3⟩
  have K := Lib.hid b3
  have O2 := Lib.hid o2
  clear o2 b3 HI1 HM1
  go_wp2_with fail
  refine (same_lists n1 L1 HL1.out HN1.out HA1.out (HO1.out _ K.out) O2.out).mono ?_
  rintro e w4 ⟨rfl, d, rfl⟩
  have K4 := Lib.hid (below_drewN K.out d)
  generalize w3.drewN d = w4 at *
  clear K O2 HA1
  go_upto_if 86 with fail
  go_cut [] (fun wx => Hid (Below v0.heap.size v0 wx))
  case first => as_aux_lemma =>
    go_wp2_with fail
    go_meet
    exact K4
  case rest => as_aux_lemma =>
  have K4' : Hid (Below v0.heap.size v0 wc) := hcut
  clear hcut K4
  generalize wc = w4' at *
  go_wp2_with fail
  refine (drawSb_any ad len cap _ (HCV.out _ K4'.out)).mono ?_
  rintro e x2 ⟨v2, A2, rfl, ha2, o, b⟩
  obtain ⟨ad2, cp2, rfl, _⟩ := o.came
  have KD2 := Lib.hid (K4'.out.trans (b.mono K4'.out.size))
  have OD2 := Lib.hid (o.mono (Nat.zero_le _))
  clear o b K4'
  obtain ⟨n2, L2, c2, l, s, h, i, m⟩ := bothSb A2 ha2
  have HL2 := Lib.hid l
  have HN2 := Lib.hid s
  have HA2 := Lib.hid h
  have HI2 := Lib.hid i
  have HM2 := Lib.hid m
  have hcc2 : (c2 != c2) = false := by simp
  clear l s h i m ha2
  generalize A2.length = q2 at *
  go_wp2_with fail
  refine (HI2.out _ _ OD2.out).mono ?_
  rintro e y2 ⟨ai2, pi2, rfl, o, b⟩
  have KI2 := Lib.hid (KD2.out.trans (b.mono KD2.out.size))
  have OI2 := Lib.hid o
  have OE2 := Lib.hid (OD2.out.below b (Nat.le_refl _))
  clear o b KD2 OD2 HI2
  go_wp2_with fail
  refine (HM2.out _ _ OE2.out).mono ?_
  rintro e z2 ⟨am2, pm2, rfl, o, b⟩
  have KM2 := Lib.hid (KI2.out.trans (b.mono KI2.out.size))
  have OM2 := Lib.hid o
  have OJ2 := Lib.hid (OI2.out.below b (Nat.le_refl _))
  clear o b KI2 OI2 OE2 HM2
  go_wp2_with fail
  refine (same_lists n2 L2 HL2.out HN2.out HA2.out OJ2.out OM2.out).mono ?_
  rintro e u2 ⟨rfl, d, rfl⟩
  have KN2 := Lib.hid (below_drewN KM2.out d)
  generalize z2.drewN d = u2 at *
  clear KM2 OJ2 OM2 HL2 HN2 HA2
  go_upto_if 107 with fail
  go_cut [] (fun wx => Hid (Below v0.heap.size v0 wx))
  case first => as_aux_lemma =>
    go_wp2_with fail
    go_meet
    exact KN2
  case rest => as_aux_lemma =>
  have KP2 : Hid (Below v0.heap.size v0 wc) := hcut
  clear hcut KN2
  generalize wc = u2' at *
  go_wp2_with fail
  refine (drawBk_any ad len cap _ (HCV.out _ KP2.out)).mono ?_
  rintro e x3 ⟨v3, A3, rfl, ha3, o, b⟩
  obtain ⟨ad3, cp3, rfl, _⟩ := o.came
  have KD3 := Lib.hid (KP2.out.trans (b.mono KP2.out.size))
  have OD3 := Lib.hid (o.mono (Nat.zero_le _))
  clear o b KP2
  obtain ⟨n3, L3, c3, l, s, h, i, m⟩ := bothBk A3 ha3
  have HL3 := Lib.hid l
  have HN3 := Lib.hid s
  have HA3 := Lib.hid h
  have HI3 := Lib.hid i
  have HM3 := Lib.hid m
  have hcc3 : (c3 != c3) = false := by simp
  clear l s h i m ha3
  generalize A3.length = q3 at *
  go_wp2_with fail
  refine (HI3.out _ _ OD3.out).mono ?_
  rintro e y3 ⟨ai3, pi3, rfl, o, b⟩
  have KI3 := Lib.hid (KD3.out.trans (b.mono KD3.out.size))
  have OI3 := Lib.hid o
  have OE3 := Lib.hid (OD3.out.below b (Nat.le_refl _))
  clear o b KD3 OD3 HI3
  go_wp2_with fail
  refine (HM3.out _ _ OE3.out).mono ?_
  rintro e z3 ⟨am3, pm3, rfl, o, b⟩
  have KM3 := Lib.hid (KI3.out.trans (b.mono KI3.out.size))
  have OM3 := Lib.hid o
  have OJ3 := Lib.hid (OI3.out.below b (Nat.le_refl _))
  clear o b KI3 OI3 OE3 HM3
  go_wp2_with fail
  refine (same_lists n3 L3 HL3.out HN3.out HA3.out OJ3.out OM3.out).mono ?_
  rintro e u3 ⟨rfl, d, rfl⟩
  have KN3 := Lib.hid (below_drewN KM3.out d)
  generalize z3.drewN d = u3 at *
  clear KM3 OJ3 OM3 HL3 HN3 HA3
  go_upto_if 128 with fail
  go_cut [] (fun wx => Hid (Below v0.heap.size v0 wx))
  case first => as_aux_lemma =>
    go_wp2_with fail
    go_meet
    exact KN3
  case rest => as_aux_lemma =>
  have KP3 : Hid (Below v0.heap.size v0 wc) := hcut
  clear hcut KN3
  generalize wc = u3' at *
  go_wp2_with fail
  refine (drawCw_any ad len cap _ (HCV.out _ KP3.out)).mono ?_
  rintro e x4 ⟨m, j, rfl, b⟩
  have KD4 := Lib.hid (KP3.out.trans (b.mono KP3.out.size))
  clear b KP3
  obtain ⟨s4, D4, c4, f4, i4, m4, k4⟩ := bothCw m j
  have HI4 := Lib.hid i4
  have HM4 := Lib.hid m4
  have HK4 := Lib.hid k4
  have HF4 := Lib.hid f4
  have HWI : Hid ((Tryd.prog.info? 35).map (·.size) = some D4.size) := Lib.hid (by rw [f4.1]; exact HSW.out)
  have HWZ : Hid (ZW.size = D4.size) := Lib.hid (by rw [f4.1]; exact HZW.out)
  have H1w := Lib.hid (finW_one f4)
  have hne4 : ∀ w, (binOp .neq 35 (.agg D4) (.agg D4)).run Tryd.prog w = .ok (.bool false) w := fun w => neq_self s4 D4 f4 w
  have hcc4 : (c4 != c4) = false := by simp
  clear f4 i4 m4 k4
  go_wp2_with fail
  refine (HI4.out _).mono ?_
  rintro e y4 ⟨rfl, b⟩
  have KI4 := Lib.hid (KD4.out.trans (b.mono KD4.out.size))
  have GI : Hid ((y4.alloc (.cells D4 35)).heap[y4.heap.size]? = some (.cells D4 35 (0, 0))) := Lib.hid (h1_0 _ _)
  have KJ4 := Lib.hid (KI4.out.alloc KI4.out.size (.cells D4 35))
  have HV4 : Hid (v0.heap.size ≤ y4.heap.size) := Lib.hid KI4.out.size
  clear b KD4 HI4 KI4
  go_wp2_with (refine wpList_store_row rfl 35 (.tmp 21) (.tmp 138) rfl y4.heap.size D4 rfl rfl 35 ZW (h1_0 _ _) HWI.out HWZ.out H1w.out ?_; rw [World.setRow_alloc_new]; go_frame)
  generalize y4.alloc (.cells D4 35) = y5 at *
  generalize y4.heap.size = gi at *
  refine (HM4.out _).mono ?_
  rintro e z4 ⟨rfl, b⟩
  have KM4 := Lib.hid (KJ4.out.trans (b.mono KJ4.out.size))
  have G2 : Hid (z4.heap[gi]? = some (.cells D4 35 (0, 0))) := Lib.hid (by rw [b.block _ (Array.getElem?_eq_some_iff.1 GI.out).1]; exact GI.out)
  have G3 : Hid ((z4.alloc (.cells D4 35)).heap[gi]? = some (.cells D4 35 (0, 0))) := Lib.hid (by rw [heap_alloc_old _ _ (Array.getElem?_eq_some_iff.1 G2.out).1]; exact G2.out)
  have GS : Hid ((z4.alloc (.cells D4 35)).heap[z4.heap.size]? = some (.cells D4 35 (0, 0))) := Lib.hid (h1_0 _ _)
  have KN4 := Lib.hid (KM4.out.alloc KM4.out.size (.cells D4 35))
  clear b KJ4 HM4 KM4 GI G2
  go_upto_if 153 with (first | (refine wpList_store_row rfl 35 (.tmp 23) (.tmp 144) rfl z4.heap.size D4 rfl rfl 35 ZW (h1_0 _ _) HWI.out HWZ.out H1w.out ?_; rw [World.setRow_alloc_new]; go_frame) | (refine wpList_load_row_g rfl 35 (.tmp 21) rfl gi rfl 35 D4 (0, 0) _ G3.out Tryd.underlying35 rfl HWI.out ?_; go_frame) | (refine wpList_load_row_g rfl 35 (.tmp 23) rfl z4.heap.size rfl 35 D4 (0, 0) _ GS.out Tryd.underlying35 rfl HWI.out ?_; go_frame))
  generalize z4.alloc (.cells D4 35) = z5 at *
  go_cut [] (fun wx => Hid (Below v0.heap.size v0 wx) ∧ Hid (wx.heap[gi]? = some (.cells D4 35 (0, 0))))
  case first => as_aux_lemma =>
    go_wp2_with fail
    go_meet
    exact ⟨KN4, G3⟩
  case rest => as_aux_lemma =>
  obtain ⟨KP4, G3'⟩ := hcut
  clear KN4 G3 GS HWI HWZ H1w hne4
  generalize wc = z5' at *
  go_wp2_with fail
  refine (drawSp_any ad len cap _ (HCV.out _ KP4.out)).mono ?_
  rintro e x5 ⟨n5, F5, M5, k5, rfl, b⟩
  have KD5 := Lib.hid (KP4.out.trans (b.mono KP4.out.size))
  have G4 : Hid (x5.heap[gi]? = some (.cells D4 35 (0, 0))) := Lib.hid (by rw [b.block _ (Array.getElem?_eq_some_iff.1 G3'.out).1]; exact G3'.out)
  obtain ⟨v5, c5, h5, i5, m5⟩ := bothSp n5 F5 M5 k5
  obtain ⟨D5, hD5⟩ : ∃ D, D = pic n5 (gl F5 M5) := ⟨_, rfl⟩
  rw [← hD5] at i5 m5 ⊢
  have HI5 := Lib.hid i5
  have HM5 := Lib.hid m5
  have hv5 : (FloatKind.f32.format.order v5 v5 != some .eq) = false := same_notnan v5 h5
  have H1p : Hid (D5.all (·.oneCell') = true) := Lib.hid (by rw [hD5]; exact gl_one _ _ _)
  have HPI : Hid ((Tryd.prog.info? 41).map (·.size) = some D5.size) := Lib.hid (by rw [hD5, pic_size _ _ (gl_size _ _)]; exact HSP.out)
  have HPZ : Hid (ZP.size = D5.size) := Lib.hid (by rw [hD5, pic_size _ _ (gl_size _ _)]; exact HZP.out)
  have hcc5 : (c5 != c5) = false := by simp
  have GP : Hid ((x5.alloc (.cells D5 41)).heap[x5.heap.size]? = some (.cells D5 41 (0, 0))) := Lib.hid (h1_0 _ _)
  have G5 : Hid ((x5.alloc (.cells D5 41)).heap[gi]? = some (.cells D4 35 (0, 0))) := Lib.hid (by rw [heap_alloc_old _ _ (Array.getElem?_eq_some_iff.1 G4.out).1]; exact G4.out)
  have KE5 := Lib.hid (KD5.out.alloc KD5.out.size (.cells D5 41))
  clear b h5 i5 m5 hD5 KP4 KD5 G3' G4
  go_wp2_with (first | (refine wpList_store_row rfl 41 (.tmp 25) (.tmp 157) rfl x5.heap.size D5 rfl rfl 41 ZP (h1_0 _ _) HPI.out HPZ.out H1p.out ?_; rw [World.setRow_alloc_new]; go_frame) | (refine wpList_load_row_g rfl 41 (.tmp 25) rfl x5.heap.size rfl 41 D5 (0, 0) _ GP.out Tryd.underlying41 rfl HPI.out ?_; go_frame))
  generalize x5.alloc (.cells D5 41) = x6 at *
  generalize x5.heap.size = gp at *
  refine (HI5.out _).mono ?_
  rintro e y6 ⟨rfl, b⟩
  have KI6 := Lib.hid (KE5.out.trans (b.mono KE5.out.size))
  have G6 : Hid (y6.heap[gi]? = some (.cells D4 35 (0, 0))) := Lib.hid (by rw [b.block _ (Array.getElem?_eq_some_iff.1 G5.out).1]; exact G5.out)
  have GP6 : Hid (y6.heap[gp]? = some (.cells D5 41 (0, 0))) := Lib.hid (by rw [b.block _ (Array.getElem?_eq_some_iff.1 GP.out).1]; exact GP.out)
  clear b KE5 G5 GP HI5
  go_wp2_with (refine wpList_load_row_g rfl 41 (.tmp 25) rfl gp rfl 41 D5 (0, 0) _ GP6.out Tryd.underlying41 rfl HPI.out ?_; go_frame)
  refine (HM5.out _).mono ?_
  rintro e z6 ⟨rfl, b⟩
  have KM6 := Lib.hid (KI6.out.trans (b.mono KI6.out.size))
  have G7 : Hid (z6.heap[gi]? = some (.cells D4 35 (0, 0))) := Lib.hid (by rw [b.block _ (Array.getElem?_eq_some_iff.1 G6.out).1]; exact G6.out)
  clear b KI6 G6 GP6 HM5 H1p HPI HPZ
  go_upto_if 178 with fail
  go_cut [] (fun wx => Hid (Below v0.heap.size v0 wx) ∧ Hid (wx.heap[gi]? = some (.cells D4 35 (0, 0))))
  case first => as_aux_lemma =>
    go_wp2_with fail
    go_meet
    exact ⟨KM6, G7⟩
  case rest => as_aux_lemma =>
  obtain ⟨KP6, G7'⟩ := hcut
  clear KM6 G7 hv5
  generalize wc = z6' at *
  go_wp2_with fail
  refine (drawPs_any ad len cap _ (HCV.out _ KP6.out)).mono ?_
  rintro e x7 ⟨n7, v7, A7, rfl, ha7, oo, b⟩
  obtain ⟨ad7, cp7, rfl, _⟩ := oo.came
  have KD7 := Lib.hid (KP6.out.trans (b.mono KP6.out.size))
  have OD7 := Lib.hid (oo.mono (Nat.zero_le _))
  have G8 : Hid (x7.heap[gi]? = some (.cells D4 35 (0, 0))) := Lib.hid (by rw [b.block _ (Array.getElem?_eq_some_iff.1 G7'.out).1]; exact G7'.out)
  clear oo b KP6 G7'
  obtain ⟨s7, zs7, c7, h7, i7, m7⟩ := bothPc n7 A7 ha7
  have hne7 : ∀ w, (binOp .neq 41 (.agg (pic s7 zs7)) (.agg (pic s7 zs7))).run Tryd.prog w = .ok (.bool false) w := fun w => neqP_self s7 zs7 h7 w
  have H17 : Hid ((pic s7 zs7).all (·.oneCell') = true) := Lib.hid (by
    rw [Array.all_eq_true]
    intro i hi
    rw [pic_size _ _ h7.1] at hi
    cases i with
    | zero =>
      have e := pic_zero s7 zs7
      rw [Array.getElem?_eq_getElem (by rw [pic_size _ _ h7.1]; omega)] at e
      rw [Option.some.inj e]
      rfl
    | succ i =>
      obtain ⟨x, _, hx⟩ := h7.2 i (by omega)
      have e := pic_succ s7 zs7 i
      rw [hx, Array.getElem?_eq_getElem (by rw [pic_size _ _ h7.1]; omega)] at e
      rw [Option.some.inj e]
      rfl)
  have HPI7 : Hid ((Tryd.prog.info? 41).map (·.size) = some (pic s7 zs7).size) := Lib.hid (by rw [pic_size _ _ h7.1]; exact HSP.out)
  have HPZ7 : Hid (ZP.size = (pic s7 zs7).size) := Lib.hid (by rw [pic_size _ _ h7.1]; exact HZP.out)
  generalize pic s7 zs7 = D7 at *
  have HI7 := Lib.hid i7
  have HM7 := Lib.hid m7
  have hcc7 : (c7 != c7) = false := by simp
  clear h7 i7 m7 ha7
  generalize A7.length = q7 at *
  go_wp2_with fail
  refine (HI7.out _ _ OD7.out).mono ?_
  rintro e y7 ⟨rfl, b⟩
  have KI7 := Lib.hid (KD7.out.trans (b.mono KD7.out.size))
  have OE7 := Lib.hid ((OD7.out.below b (Nat.le_refl _)).alloc (.cells D7 41))
  have G9 : Hid (y7.heap[gi]? = some (.cells D4 35 (0, 0))) := Lib.hid (by rw [b.block _ (Array.getElem?_eq_some_iff.1 G8.out).1]; exact G8.out)
  have G10 : Hid ((y7.alloc (.cells D7 41)).heap[gi]? = some (.cells D4 35 (0, 0))) := Lib.hid (by rw [heap_alloc_old _ _ (Array.getElem?_eq_some_iff.1 G9.out).1]; exact G9.out)
  have GP7 : Hid ((y7.alloc (.cells D7 41)).heap[y7.heap.size]? = some (.cells D7 41 (0, 0))) := Lib.hid (h1_0 _ _)
  have KJ7 := Lib.hid (KI7.out.alloc KI7.out.size (.cells D7 41))
  clear b KD7 KI7 OD7 G8 G9 HI7
  go_wp2_with (refine wpList_store_row rfl 41 (.tmp 33) (.tmp 188) rfl y7.heap.size D7 rfl rfl 41 ZP (h1_0 _ _) HPI7.out HPZ7.out H17.out ?_; rw [World.setRow_alloc_new]; go_frame)
  generalize y7.alloc (.cells D7 41) = y8 at *
  generalize y7.heap.size = g7 at *
  refine (HM7.out _ _ OE7.out).mono ?_
  rintro e z7 ⟨rfl, b⟩
  have KM7 := Lib.hid (KJ7.out.trans (b.mono KJ7.out.size))
  have G11 : Hid (z7.heap[gi]? = some (.cells D4 35 (0, 0))) := Lib.hid (by rw [b.block _ (Array.getElem?_eq_some_iff.1 G10.out).1]; exact G10.out)
  have G12 : Hid ((z7.alloc (.cells D7 41)).heap[gi]? = some (.cells D4 35 (0, 0))) := Lib.hid (by rw [heap_alloc_old _ _ (Array.getElem?_eq_some_iff.1 G11.out).1]; exact G11.out)
  have GP8 : Hid (z7.heap[g7]? = some (.cells D7 41 (0, 0))) := Lib.hid (by rw [b.block _ (Array.getElem?_eq_some_iff.1 GP7.out).1]; exact GP7.out)
  have GP9 : Hid ((z7.alloc (.cells D7 41)).heap[g7]? = some (.cells D7 41 (0, 0))) := Lib.hid (by rw [heap_alloc_old _ _ (Array.getElem?_eq_some_iff.1 GP8.out).1]; exact GP8.out)
  have GP10 : Hid ((z7.alloc (.cells D7 41)).heap[z7.heap.size]? = some (.cells D7 41 (0, 0))) := Lib.hid (h1_0 _ _)
  have KN7 := Lib.hid (KM7.out.alloc KM7.out.size (.cells D7 41))
  clear b KJ7 KM7 OE7 G10 G11 GP7 GP8 HM7
  go_upto_if 203 with (first | (refine wpList_store_row rfl 41 (.tmp 35) (.tmp 194) rfl z7.heap.size D7 rfl rfl 41 ZP (h1_0 _ _) HPI7.out HPZ7.out H17.out ?_; rw [World.setRow_alloc_new]; go_frame) | (refine wpList_load_row_g rfl 41 (.tmp 33) rfl g7 rfl 41 D7 (0, 0) _ GP9.out Tryd.underlying41 rfl HPI7.out ?_; go_frame) | (refine wpList_load_row_g rfl 41 (.tmp 35) rfl z7.heap.size rfl 41 D7 (0, 0) _ GP10.out Tryd.underlying41 rfl HPI7.out ?_; go_frame))
  generalize z7.alloc (.cells D7 41) = z8' at *
  go_cut [] (fun wx => Hid (Below v0.heap.size v0 wx) ∧ Hid (wx.heap[gi]? = some (.cells D4 35 (0, 0))))
  case first => as_aux_lemma =>
    go_wp2_with fail
    go_meet
    exact ⟨KN7, G12⟩
  case rest => as_aux_lemma =>
  obtain ⟨KN8, G12'⟩ := hcut
  clear KN7 G12 GP9 GP10 H17 HPI7 HPZ7 hne7 hcc1 hcc2 hcc3 hcc4 hcc5 hcc7
  generalize wc = z8 at *
  go_upto_if 205 with fail
  have KA := Lib.hid KN8.out
  have G12 := Lib.hid G12'.out
  clear KN8 G12'
  go_cut [] (fun wx => Hid (Below z8.heap.size z8 wx))
  case first => as_aux_lemma =>
    rcases HK1.out with ⟨rfl, t, q, ht, hq, rfl, rfl, rfl⟩ | rfl
    · have hll := HL1.out
      rw [walsh_len] at hll
      subst hll
      have O1 := Lib.hid (HO1.out _ KA.out)
      obtain ⟨R, hR, hcall⟩ := walsh_sums t q ht hq
      have HR := Lib.hid hR
      have HCALL := Lib.hid hcall
      have hN0 : 0 < 2 ^ t := Nat.two_pow_pos t
      have hN64 := pow_six ht
      clear hR hcall HK1 HL1 HN1 HO1 HC HCV HK4 HF4 G12 KA ht
      generalize 2 ^ t = N at *
      go_wp2_with fail
      refine (HCALL.out _ _ O1.out).mono ?_
      rintro e wS ⟨aS, pS, rfl, os, bs⟩
      have BS := Lib.hid bs
      obtain ⟨b, off, rfl, _, hcell⟩ := os.camed.2 hN0
      have HCE := Lib.hid hcell
      clear os bs hcell HCALL O1
      go_wp2_with fail
      go_loopw [39] (fun i wr => ∃ jx : Nat, jx ≤ N ∧ i = .int .i64 jx ∧ wr = wS) (fun i _ => N - (intOf i).toNat)
      case atStart => exact ⟨0, by omega, rfl, rfl⟩
      case round =>
        obtain ⟨jx, hjx, rfl, hw0⟩ := hrel
        obtain rfl := hw0.symm
        by_cases hlt : jx < N
        · have hdk : decide ((jx : Int) < (N : Int)) = true := by simp; omega
          have c1 := HCE.out jx hlt
          have hW := HR.out jx hlt
          by_cases he : jx = q
          · have hdq : ((jx : Int) == (q : Int)) = true := by simp; omega
            rw [if_pos he] at hW
            have hx : (FloatKind.f32.format.order (R.getD jx 0) (floatOfInt .f32 (N : Int)) != some .eq) = false := by
              have := wh_eq hW (wh_int (N : Int) (by omega))
              simpa using this
            clear hW he
            generalize R.getD jx 0 = x at *
            go_wp2_with fail
            exact ⟨⟨jx + 1, by omega, by go_num, by trivial⟩, by simp [intOf]; omega⟩
          · have hdq : ((jx : Int) == (q : Int)) = false := by simp; omega
            rw [if_neg he] at hW
            have hx : (FloatKind.f32.format.order (R.getD jx 0) 0 != some .eq) = false := by
              have := wh_eq hW wh_zero
              simpa using this
            clear hW he
            generalize R.getD jx 0 = x at *
            go_wp2_with fail
            exact ⟨⟨jx + 1, by omega, by go_num, by trivial⟩, by simp [intOf]; omega⟩
        · obtain rfl : jx = N := by omega
          go_wp2_with fail
          go_meet
          exact BS
    · go_wp2_with fail
      go_meet
      exact Lib.hid (Below.refl _ _)
  case rest => as_aux_lemma =>
  have C1 : Hid (Below z8.heap.size z8 wc) := hcut
  have KB := Lib.hid (KA.out.trans (C1.out.mono KA.out.size))
  have G13 : Hid (wc.heap[gi]? = some (.cells D4 35 (0, 0))) := Lib.hid (by rw [C1.out.block _ (Array.getElem?_eq_some_iff.1 G12.out).1]; exact G12.out)
  clear hcut C1 HK1 HL1 HN1 HO1 G12 KA
  generalize wc = u8 at *
  go_upto_if 230 with fail
  go_cut [] (fun wx => Hid (Below u8.heap.size u8 wx))
  case first => as_aux_lemma =>
    rcases HK4.out with ⟨rfl, N, t, q, rfl, ht, hq, hw, rfl, hD⟩ | rfl
    · have HD := Lib.hid hD
      have HWC := Lib.hid (walsh_code t q ht hq)
      have HWL : Hid (∀ i, i < 2 ^ t → (walsh (2 ^ t) q).getD i 0 = wal q i) := Lib.hid fun i hi => by
        rw [walsh, List.getD_eq_getElem?_getD, List.getElem?_map, List.getElem?_range hi]
        rfl
      have hN0 : 0 < 2 ^ t := Nat.two_pow_pos t
      have hN64 := pow_six ht
      clear hD HK4 HF4 HC HCV KB ht hq
      generalize 2 ^ t = N at *
      generalize walsh N q = L at *
      go_wp2_with fail
      refine (HWC.out _).mono ?_
      rintro e wS ⟨aS, pS, rfl, os, bs⟩
      have BS := Lib.hid bs
      have G14 : Hid (wS.heap[gi]? = some (.cells D4 35 (0, 0))) := Lib.hid (by rw [bs.block _ (Array.getElem?_eq_some_iff.1 G13.out).1]; exact G13.out)
      obtain ⟨b, off, rfl, _, hcell⟩ := os.camed.2 hN0
      have HCE := Lib.hid hcell
      clear os bs hcell HWC G13
      go_wp2_with fail
      go_loopw [43] (fun i wr => ∃ jx d : Nat, jx ≤ N ∧ i = .int .i64 jx ∧ Hid (wr = wS.drewN d)) (fun i _ => N - (intOf i).toNat)
      case atStart => exact ⟨0, 0, by omega, rfl, Lib.hid rfl⟩
      case round =>
        obtain ⟨jx, d, hjx, rfl, HW⟩ := hrel
        by_cases hlt : jx < N
        · have hdk : decide ((jx : Int) < (N : Int)) = true := by simp; omega
          have hj64 : jx < 64 := by omega
          have c1 : wr.cell? ⟨b, off + jx, none⟩ = some (.float .f32 (wal q jx)) := by rw [HW.out, World.cell?_drewN, HCE.out jx hlt, HWL.out jx hlt]
          have c2 : wr.cell? ⟨gi, 1 + jx, none⟩ = some (.complex .f32 (wal q jx) 0) := by rw [HW.out, World.cell?_drewN, cell_of_row _ _ _ _ _ _ G14.out]; exact HD.out jx hlt
          have hfin : fin (wal q jx) = true := sg_fin _
          generalize wal q jx = x at *
          have hne : ∀ w, (binOp .neq 32 (.complex .f32 x 0) (.complex .f32 x 0)).run Tryd.prog w = .ok (.bool false) w := neq_cplx x hfin
          clear hfin
          go_wp2_with fail
          go_quiet (fail)
          go_wp2_with fail
          exact ⟨⟨jx + 1, d + nq, by omega, by go_num, Lib.hid (by rw [HW.out, World.drewN_drewN])⟩, by simp [intOf]; omega⟩
        · obtain rfl : jx = N := by omega
          have BD : Hid (Below u8.heap.size u8 wr) := Lib.hid (by rw [HW.out]; exact below_drewN BS.out d)
          go_wp2_with fail
          go_meet
          exact BD
    · go_wp2_with fail
      go_meet
      exact Lib.hid (Below.refl _ _)
  case rest => as_aux_lemma =>
  have C2 : Hid (Below u8.heap.size u8 wc) := hcut
  have KC := Lib.hid (KB.out.trans (C2.out.mono KB.out.size))
  have HCC := Lib.hid (HCV.out _ KC.out)
  clear hcut C2 HK4 HF4 G13 KB HCV HC
  generalize wc = u9 at *
  go_wp2_with fail
  refine (roll_of 9710 (by omega) (by omega) ad len cap _ HCC.out).mono ?_
  rintro e w6 ⟨g, rfl, hg, hg2, dc, b⟩
  have K6 := Lib.hid (KC.out.trans (b.mono KC.out.size))
  have HG : Hid (v0.heap.size ≤ g) := Lib.hid (Nat.le_trans KC.out.size hg)
  have D6 := Lib.hid dc
  clear b KC HCC hg hg2 dc
  go_upto_region 55 with fail
  go_cut [45] (fun v wx => ∃ (a : Option Addr) (cp N t : Nat) (A : List Nat) (Z : Nat → Int), v = .slice a N cp ∧ N = 2 ^ t ∧ t ≤ 6 ∧ Hid (A.length = N) ∧ Hid (Small Z A) ∧ Hid (OwnF 0 (.slice a N cp) A wx) ∧ Hid (Dic g wx) ∧ Hid (Below v0.heap.size v0 wx))
  case first => as_aux_lemma =>
    go_wp2_with fail
    refine (below_any g 7 _ D6.out).mono ?_
    rintro e w7 ⟨r, rfl, r0, r1, d7, t7⟩
    have hr7 : r = 0 ∨ r = 1 ∨ r = 2 ∨ r = 3 ∨ r = 4 ∨ r = 5 ∨ r = 6 := by omega
    have K7 := Lib.hid (t7.after K6.out HG.out (Nat.le_refl _))
    have D7' := Lib.hid d7
    clear d7 t7 K6 D6
    rcases hr7 with rfl | rfl | rfl | rfl | rfl | rfl | rfl
    · go_wp2_with fail
      refine (numbers9_any g 1 (by omega) _ D7'.out).mono ?_
      rintro e w8 ⟨v, A, Z, rfl, hA, hZ, o, d8, t8⟩
      obtain ⟨ao, po, rfl, _⟩ := o.came
      rw [hA] at o ⊢
      have HA := Lib.hid hA
      have HZ := Lib.hid hZ
      have O8 := Lib.hid (o.mono (Nat.zero_le _))
      have D8 := Lib.hid d8
      have K8 := Lib.hid (t8.after K7.out HG.out (Nat.le_refl _))
      clear hA hZ o d8 t8
      go_wp2_with fail
      go_meet
      exact ⟨ao, po, 1, 0, A, Z, rfl, rfl, by omega, HA, HZ, O8, D8, K8⟩
    · go_wp2_with fail
      refine (numbers9_any g 2 (by omega) _ D7'.out).mono ?_
      rintro e w8 ⟨v, A, Z, rfl, hA, hZ, o, d8, t8⟩
      obtain ⟨ao, po, rfl, _⟩ := o.came
      rw [hA] at o ⊢
      have HA := Lib.hid hA
      have HZ := Lib.hid hZ
      have O8 := Lib.hid (o.mono (Nat.zero_le _))
      have D8 := Lib.hid d8
      have K8 := Lib.hid (t8.after K7.out HG.out (Nat.le_refl _))
      clear hA hZ o d8 t8
      go_wp2_with fail
      go_meet
      exact ⟨ao, po, 2, 1, A, Z, rfl, rfl, by omega, HA, HZ, O8, D8, K8⟩
    · go_wp2_with fail
      refine (numbers9_any g 4 (by omega) _ D7'.out).mono ?_
      rintro e w8 ⟨v, A, Z, rfl, hA, hZ, o, d8, t8⟩
      obtain ⟨ao, po, rfl, _⟩ := o.came
      rw [hA] at o ⊢
      have HA := Lib.hid hA
      have HZ := Lib.hid hZ
      have O8 := Lib.hid (o.mono (Nat.zero_le _))
      have D8 := Lib.hid d8
      have K8 := Lib.hid (t8.after K7.out HG.out (Nat.le_refl _))
      clear hA hZ o d8 t8
      go_wp2_with fail
      go_meet
      exact ⟨ao, po, 4, 2, A, Z, rfl, rfl, by omega, HA, HZ, O8, D8, K8⟩
    · go_wp2_with fail
      refine (numbers9_any g 8 (by omega) _ D7'.out).mono ?_
      rintro e w8 ⟨v, A, Z, rfl, hA, hZ, o, d8, t8⟩
      obtain ⟨ao, po, rfl, _⟩ := o.came
      rw [hA] at o ⊢
      have HA := Lib.hid hA
      have HZ := Lib.hid hZ
      have O8 := Lib.hid (o.mono (Nat.zero_le _))
      have D8 := Lib.hid d8
      have K8 := Lib.hid (t8.after K7.out HG.out (Nat.le_refl _))
      clear hA hZ o d8 t8
      go_wp2_with fail
      go_meet
      exact ⟨ao, po, 8, 3, A, Z, rfl, rfl, by omega, HA, HZ, O8, D8, K8⟩
    · go_wp2_with fail
      refine (numbers9_any g 16 (by omega) _ D7'.out).mono ?_
      rintro e w8 ⟨v, A, Z, rfl, hA, hZ, o, d8, t8⟩
      obtain ⟨ao, po, rfl, _⟩ := o.came
      rw [hA] at o ⊢
      have HA := Lib.hid hA
      have HZ := Lib.hid hZ
      have O8 := Lib.hid (o.mono (Nat.zero_le _))
      have D8 := Lib.hid d8
      have K8 := Lib.hid (t8.after K7.out HG.out (Nat.le_refl _))
      clear hA hZ o d8 t8
      go_wp2_with fail
      go_meet
      exact ⟨ao, po, 16, 4, A, Z, rfl, rfl, by omega, HA, HZ, O8, D8, K8⟩
    · go_wp2_with fail
      refine (numbers9_any g 32 (by omega) _ D7'.out).mono ?_
      rintro e w8 ⟨v, A, Z, rfl, hA, hZ, o, d8, t8⟩
      obtain ⟨ao, po, rfl, _⟩ := o.came
      rw [hA] at o ⊢
      have HA := Lib.hid hA
      have HZ := Lib.hid hZ
      have O8 := Lib.hid (o.mono (Nat.zero_le _))
      have D8 := Lib.hid d8
      have K8 := Lib.hid (t8.after K7.out HG.out (Nat.le_refl _))
      clear hA hZ o d8 t8
      go_wp2_with fail
      go_meet
      exact ⟨ao, po, 32, 5, A, Z, rfl, rfl, by omega, HA, HZ, O8, D8, K8⟩
    · go_wp2_with fail
      refine (numbers9_any g 64 (by omega) _ D7'.out).mono ?_
      rintro e w8 ⟨v, A, Z, rfl, hA, hZ, o, d8, t8⟩
      obtain ⟨ao, po, rfl, _⟩ := o.came
      rw [hA] at o ⊢
      have HA := Lib.hid hA
      have HZ := Lib.hid hZ
      have O8 := Lib.hid (o.mono (Nat.zero_le _))
      have D8 := Lib.hid d8
      have K8 := Lib.hid (t8.after K7.out HG.out (Nat.le_refl _))
      clear hA hZ o d8 t8
      go_wp2_with fail
      go_meet
      exact ⟨ao, po, 64, 6, A, Z, rfl, rfl, by omega, HA, HZ, O8, D8, K8⟩
  case rest => as_aux_lemma =>
  obtain ⟨ao, po, N, t, A, Z, rfl, hNE, ht, HA, HZ0, O8, D8, K8⟩ := hcut
  obtain ⟨T, R, hR, hsb, hbk⟩ := sums_home A Z t ht (HA.out.trans hNE) HZ0.out
  have hN64 : N ≤ 64 := by rw [hNE]; exact pow_six ht
  rw [← hNE] at hR hsb hbk
  have HZW' : Hid (∀ i, i < N → Wh (Z i) (A.getD i 0)) := Lib.hid fun i hi => (HZ0.out i (by rw [HA.out]; exact hi)).1
  clear K6 D6 hNE ht HA HZ0
  generalize wc = w8 at *
  have HR := Lib.hid hR
  have HSB := Lib.hid hsb
  have HBK := Lib.hid hbk
  clear hR hsb hbk
  go_wp2_with fail
  refine (HSB.out _ _ O8.out).mono ?_
  rintro e w9 ⟨at9, pt9, rfl, o, b⟩
  have K9 := Lib.hid (K8.out.trans (b.mono K8.out.size))
  have O9 := Lib.hid (O8.out.below b (Nat.le_refl _))
  have T9 := Lib.hid (o.mono (Nat.zero_le _))
  have D9 := Lib.hid (D8.out.kept b D8.out.lt)
  clear o b K8 O8 HSB D8
  go_wp2_with fail
  refine (HBK.out _ _ T9.out).mono ?_
  rintro e w10 ⟨at10, pt10, rfl, o, b⟩
  have K10 := Lib.hid (K9.out.trans (b.mono K9.out.size))
  have O10 := Lib.hid (O9.out.below b (Nat.le_refl _))
  have R10 := Lib.hid (o.mono (Nat.zero_le _))
  have D10 := Lib.hid (D9.out.kept b D9.out.lt)
  clear o b K9 O9 T9 HBK D9
  go_wp2_with fail
  refine (whole_lists N R A Z hN64 HR.out HZW'.out R10.out O10.out).mono ?_
  rintro e w11 ⟨rfl, d, rfl⟩
  have K11 := Lib.hid (below_drewN K10.out d)
  have D11 := Lib.hid (D10.out.kept (below_drewN (Below.refl w10.heap.size w10) d) D10.out.lt)
  generalize w10.drewN d = w11' at *
  clear K10 O10 R10 D10 HR HZW' hN64
  go_upto_if 287 with fail
  go_cut [] (fun wx => Hid (Below v0.heap.size v0 wx) ∧ Hid (Dic g wx))
  case first => as_aux_lemma =>
    go_wp2_with fail
    go_meet
    exact ⟨K11, D11⟩
  case rest => as_aux_lemma =>
  obtain ⟨K11', D11'⟩ := hcut
  have K11'' := Lib.hid K11'.out
  have D11'' := Lib.hid D11'.out
  clear K11 D11 K11' D11'
  generalize wc = w11 at *
  go_upto_region 60 with fail
  go_cut [50] (fun v wx => ∃ s m2 : Nat, v = .int .i64 (s : Int) ∧ m2 ≤ 2 ∧ s = 2 ^ m2 ∧ Hid (Dic g wx) ∧ Hid (Below v0.heap.size v0 wx))
  case first => as_aux_lemma =>
    go_wp2_with fail
    refine (side9_any g _ D11''.out).mono ?_
    rintro e w12 ⟨m2, hm2, rfl, d12, t12⟩
    have K12 := Lib.hid (t12.after K11''.out HG.out (Nat.le_refl _))
    have D12 := Lib.hid d12
    have HM2 := Lib.hid hm2
    obtain ⟨s, hs⟩ : ∃ s : Nat, s = 2 ^ m2 := ⟨_, rfl⟩
    rw [← hs]
    have HS2 := Lib.hid hs
    clear d12 t12 K11'' D11'' hm2 hs
    go_wp2_with fail
    go_meet
    exact ⟨s, m2, rfl, HM2.out, HS2.out, D12, K12⟩
  case rest => as_aux_lemma =>
  obtain ⟨s, m2, rfl, hm2, hs, D12, K12⟩ := hcut
  clear K11'' D11''
  generalize wc = w12 at *
  have hs3 : s = 1 ∨ s = 2 ∨ s = 4 := by
    have h : m2 = 0 ∨ m2 = 1 ∨ m2 = 2 := by omega
    rcases h with rfl | rfl | rfl
    · exact .inl hs
    · exact .inr (.inl hs)
    · exact .inr (.inr hs)
  have hss : s * s = 2 ^ (2 * m2) := by rw [hs, ← Nat.pow_add, Nat.two_mul]
  have hsd : side (s : Int) = true := by rcases hs3 with rfl | rfl | rfl <;> rfl
  have hsum := fun (k : Nat) (Z : Nat → Int) (F : Nat → Nat) h hk => lev_sum s (2 * m2) k Z F hsd hss h hk
  have hfound := fun (Z : Nat → Int) (F : Nat → Nat) (L : List Nat) h hL => lev_found s (2 * m2) Z F L hsd hss (by omega) h hL
  rw [← hss] at hsum hfound
  have hN1 : 1 ≤ s * s ∧ s * s ≤ 16 := by rcases hs3 with rfl | rfl | rfl <;> omega
  have hww : IntKind.i64.wrap ((s : Int) * s) = ((s * s : Nat) : Int) := by rcases hs3 with rfl | rfl | rfl <;> rfl
  have HSUM := Lib.hid hsum
  have HFOUND := Lib.hid hfound
  clear hsum hfound hss hsd hs3 hs
  obtain ⟨E, hE⟩ : ∃ E, E = pic (s : Int) zero64 := ⟨_, rfl⟩
  have HSE : Hid (ZP.setIfInBounds 0 (.int .i64 (s : Int)) = E) := Lib.hid (by rw [hE]; exact HPS.out s)
  have HEE := Lib.hid hE
  have HEI : Hid ((Tryd.prog.info? 41).map (·.size) = some E.size) := Lib.hid (by rw [hE, pic_size _ _ (by simp [zero64])]; exact HSP.out)
  have HZE : Hid (ZP.size = E.size) := Lib.hid (by rw [hE, pic_size _ _ (by simp [zero64])]; exact HZP.out)
  have HE1 : Hid (E.all (·.oneCell') = true) := Lib.hid (by rw [hE, ← gl_zero (fun _ => 0)]; exact gl_one _ _ _)
  clear hE
  generalize s * s = N at *
  have HGL : Hid (g < w12.heap.size) := Lib.hid D12.out.lt
  have K13 := Lib.hid (K12.out.alloc K12.out.size (.cells E 41))
  have D13 := Lib.hid (D12.out.alloc (.cells E 41))
  have G13 : Hid ((w12.alloc (.cells E 41)).heap[w12.heap.size]? = some (.cells E 41 (0, 0))) := Lib.hid (h1_0 _ _)
  have HBV : Hid (v0.heap.size ≤ w12.heap.size) := Lib.hid K12.out.size
  have HBW : Hid (w12.heap.size < (w12.alloc (.cells E 41)).heap.size) := Lib.hid (by rw [World.size_alloc]; omega)
  clear K12 D12
  go_upto_region 62 with (first | fail | (rw [HSE.out]; refine wpList_store_row rfl 41 (.tmp 51) (.tmp 291) rfl w12.heap.size E rfl rfl 41 ZP (h1_0 _ _) HEI.out HZE.out HE1.out ?_; rw [World.setRow_alloc_new]; go_frame))
  generalize w12.alloc (.cells E 41) = w13 at *
  generalize w12.heap.size = gs at *
  have K14 := Lib.hid (K13.out.alloc K13.out.size (.cells #[] 38))
  have D14 := Lib.hid (D13.out.alloc (.cells #[] 38))
  have G14 : Hid ((w13.alloc (.cells #[] 38)).heap[gs]? = some (.cells E 41 (0, 0))) := Lib.hid (by rw [heap_alloc_old _ _ HBW.out]; exact G13.out)
  have O14 : Hid (OwnF w13.heap.size (.slice (some ⟨w13.heap.size, 0, none⟩) 0 0) [] (w13.alloc (.cells #[] 38))) := Lib.hid (OwnF.empty _ _ (Nat.le_refl _))
  have HGB : Hid (g < w13.heap.size) := Lib.hid (Nat.lt_trans HGL.out HBW.out)
  have HVB : Hid (v0.heap.size ≤ w13.heap.size) := Lib.hid K13.out.size
  have HB14 : Hid (w13.heap.size ≤ (w13.alloc (.cells #[] 38)).heap.size) := Lib.hid (by rw [World.size_alloc]; omega)
  clear K13 D13 G13
  go_wp2_with fail
  generalize w13.alloc (.cells #[] 38) = w14 at *
  generalize w13.heap.size = bl at *
  go_loopw [53] (fun i wr => ∃ (k : Nat) (F : Nat → Nat) (Z : Nat → Int) (C : Array Value), k ≤ N ∧ i = .int .i64 k ∧ Hid (C = pic s (gl F k)) ∧ Hid (Lev Z F k) ∧ Hid (wr.heap[gs]? = some (.cells C 41 (0, 0))) ∧ Hid (Dic g wr) ∧ Hid (OwnF bl (.slice (some ⟨bl, 0, none⟩) 0 0) [] wr) ∧ Hid (Below v0.heap.size v0 wr) ∧ Hid (bl ≤ wr.heap.size)) (fun i _ => N - (intOf i).toNat)
  case atStart => exact ⟨0, fun _ => 0, fun _ => 0, E, by omega, rfl, Lib.hid (by rw [HEE.out, gl_zero]), Lib.hid (fun i hi => by omega), G14, D14, O14, K14, HB14⟩
  case round => as_aux_lemma =>
    clear G14 D14 O14 K14 HB14
    obtain ⟨k, F, Z, C, hk, rfl, HCP, HLV, G, DD, O, KK, HS⟩ := hrel
    by_cases hlt : k < N
    · have hdk : decide ((k : Int) < (N : Int)) = true := by simp; omega
      go_wp2_with fail
      refine (below_any g 9 _ DD.out).mono ?_
      rintro e w15 ⟨r, rfl, r0, r1, d15, t15⟩
      have hk64 : k < 64 := by omega
      have hlen := (Array.getElem?_eq_some_iff.1 G.out).1
      have G15 : Hid (w15.heap[gs]? = some (.cells C 41 (0, 0))) := Lib.hid (by rw [t15.block _ hlen (by have := HGL.out; omega)]; exact G.out)
      have hold : w15.cell? ⟨gs, 1 + k, none⟩ = some (.float .f32 0) := by
        rw [cell_of_row _ _ _ _ _ _ G15.out, HCP.out]; exact gl_old s F k hk64
      have hfree : w15.frozen? ⟨gs, 1 + k, none⟩ = false := frozen_of_row _ _ _ _ _ G15.out
      have O15 := O.out.trn t15 HGB.out
      have K15 := t15.after KK.out HG.out (Nat.le_refl _)
      have O16 : Hid (OwnF bl (.slice (some ⟨bl, 0, none⟩) 0 0) [] (w15.setCell ⟨gs, 1 + k, none⟩ (.float .f32 (floatOfInt .f32 r)))) := Lib.hid (O15.same (by rw [heap_setCell_other _ _ _ _ (by show bl ≠ gs; have := HBW.out; omega)]))
      have K16 : Hid (Below v0.heap.size v0 (w15.setCell ⟨gs, 1 + k, none⟩ (.float .f32 (floatOfInt .f32 r)))) := Lib.hid (K15.setCell (p := ⟨gs, 1 + k, none⟩) HBV.out _)
      have D16 : Hid (Dic g (w15.setCell ⟨gs, 1 + k, none⟩ (.float .f32 (floatOfInt .f32 r)))) := Lib.hid (d15.kept ((Below.refl gs w15).setCell (p := ⟨gs, 1 + k, none⟩) (Nat.le_refl _) _) HGL.out)
      have G16 : Hid ((w15.setCell ⟨gs, 1 + k, none⟩ (.float .f32 (floatOfInt .f32 r))).heap[gs]? = some (.cells (C.setIfInBounds (1 + k) (.float .f32 (floatOfInt .f32 r))) 41 (0, 0))) := Lib.hid (heap_setCell_same _ _ _ _ _ _ G15.out)
      have S16 : Hid (bl ≤ (w15.setCell ⟨gs, 1 + k, none⟩ (.float .f32 (floatOfInt .f32 r))).heap.size) := Lib.hid (by rw [World.size_setCell]; exact Nat.le_trans HS.out t15.size)
      have HN : Hid (C.setIfInBounds (1 + k) (.float .f32 (floatOfInt .f32 r)) = pic s (gl (fun i => if i = k then floatOfInt .f32 r else F i) (k + 1))) := Lib.hid (by rw [HCP.out]; exact gl_next s F k _ hk64)
      have HV : Hid (Lev (fun i => if i = k then r else Z i) (fun i => if i = k then floatOfInt .f32 r else F i) (k + 1)) := Lib.hid fun i hi => by
        show Wh (if i = k then r else Z i) (if i = k then floatOfInt .f32 r else F i) ∧ 0 ≤ (if i = k then r else Z i) ∧ (if i = k then r else Z i) ≤ 8
        by_cases h : i = k
        · rw [if_pos h, if_pos h]
          exact ⟨wh_int r (by omega), by omega, by omega⟩
        · rw [if_neg h, if_neg h]
          exact HLV.out i (by omega)
      clear hlen d15 t15 O15 K15 G DD O KK HS HCP HLV
      go_wp2_with fail
      exact ⟨⟨k + 1, _, _, _, by omega, by go_num, HN, HV, G16, D16, O16, K16, S16⟩, by simp [intOf]; omega⟩
    · obtain rfl : k = N := by omega
      have HC1 : Hid (C.all (·.oneCell') = true) := Lib.hid (by rw [HCP.out]; exact gl_one _ _ _)
      have HCI : Hid ((Tryd.prog.info? 41).map (·.size) = some C.size) := Lib.hid (by rw [HCP.out, pic_size _ _ (gl_size _ _)]; exact HSP.out)
      have HSM : Hid (∀ q, q < k → ∃ v, Wh (had Z k q) v ∧ ∀ w, Calls Tryd.prog 20 #[.agg C, .int .i64 (q : Int)] w fun e w' => e = .returned (.tuple #[.float .f32 v, .int .i64 0]) ∧ Below w.heap.size w w') := Lib.hid fun q hq => by
        rw [HCP.out]
        exact HSUM.out q Z F HLV.out hq
      have HFD : Hid (∀ L, WhL (had Z k) k L → ∃ zs : Array Value, (∀ v w, OwnF 0 v L w → Calls Tryd.prog 23 #[.int .i64 (s : Int), v] w fun e w' => e = .returned (.tuple #[.agg (pic s zs), .int .i64 0]) ∧ Below w.heap.size w w') ∧ zs.size = 64 ∧ (pic s zs).all (·.oneCell') = true ∧ (∀ w, (binOp .eql 41 (.agg (pic s zs)) (.agg C)).run Tryd.prog w = .ok (.bool true) w)) := Lib.hid fun L hL => by
        rw [HCP.out]
        obtain ⟨zs, z1, z2, z3, z4⟩ := HFOUND.out Z F L HLV.out hL
        refine ⟨zs, z1, z2, ?_, z4⟩
        exact pic_all s zs z2 z3
      have HIB : Hid (k ≤ 16) := Lib.hid hN1.2
      clear HSUM HFOUND HLV HCP DD HSE HEE HEI HZE HE1 HG HGL HGB hN1
      go_wp2_with fail
      go_loopw [54, 52] (fun i v wv => ∃ (q : Nat) (L : List Nat), q ≤ k ∧ i = .int .i64 q ∧ Hid (L.length = q) ∧ Hid (∀ j, j < q → Wh (had Z k j) (L.getD j 0)) ∧ Hid (OwnF bl v L wv) ∧ Hid (wv.heap[gs]? = some (.cells C 41 (0, 0))) ∧ Hid (Below v0.heap.size v0 wv) ∧ Hid (bl ≤ wv.heap.size)) (fun i _ _ => k - (intOf i).toNat)
      case atStart => exact ⟨0, [], by omega, rfl, Lib.hid rfl, Lib.hid (fun j hj => by omega), O, G, KK, HS⟩
      case round => as_aux_lemma =>
        clear O G KK HS
        obtain ⟨q, L, hq, rfl, HL, HW, O, G, KK, HS⟩ := hrel
        have hk16 := HIB.out
        obtain ⟨al, pl, e0, _⟩ := O.out.came
        subst e0
        have hkl := HL.out
        rw [hkl] at O ⊢
        clear hkl
        by_cases hlq : q < k
        · have hdq : decide ((q : Int) < (k : Int)) = true := by simp; omega
          obtain ⟨v, hv, hcall⟩ := HSM.out q hlq
          have HCALL := Lib.hid hcall
          have HV := Lib.hid hv
          clear hcall hv
          go_wp2_with (refine wpList_load_row_g rfl 41 (.tmp 51) rfl gs rfl 41 C (0, 0) _ G.out Tryd.underlying41 rfl HCI.out ?_; go_frame)
          refine (HCALL.out _).mono ?_
          rintro e w16 ⟨rfl, b⟩
          have G16 : Hid (w16.heap[gs]? = some (.cells C 41 (0, 0))) := Lib.hid (by rw [b.block _ (Array.getElem?_eq_some_iff.1 G.out).1]; exact G.out)
          have O16 := Lib.hid (O.out.below b (Nat.le_refl _))
          have K16 := Lib.hid (KK.out.trans (b.mono KK.out.size))
          have S16 : Hid (bl ≤ w16.heap.size) := Lib.hid (Nat.le_trans HS.out b.size)
          have HLN : Hid (L.length ≤ 1048576) := Lib.hid (by rw [HL.out]; have := HIB.out; omega)
          clear b O G KK HS HCALL
          go_wp2_with (at_builtin; refine wpList_pushF rfl (.tmp 321) (.tmp 323) rfl bl _ _ v rfl rfl O16.out HLN.out S16.out ?_)
          intro v' w17 O6 B6
          have O17 := Lib.hid O6
          have G17 : Hid (w17.heap[gs]? = some (.cells C 41 (0, 0))) := Lib.hid (by rw [B6.block _ HBW.out]; exact G16.out)
          have K17 := Lib.hid (K16.out.trans (B6.mono HVB.out))
          have S17 : Hid (bl ≤ w17.heap.size) := Lib.hid (Nat.le_trans S16.out B6.size)
          have HW17 : Hid (∀ j, j < q + 1 → Wh (had Z k j) ((L ++ [v]).getD j 0)) := Lib.hid fun j hj => by
            rw [List.getD_eq_getElem?_getD]
            by_cases h2 : j < q
            · rw [List.getElem?_append_left (by rw [HL.out]; exact h2), ← List.getD_eq_getElem?_getD]
              exact HW.out j h2
            · have : j = q := by omega
              subst this
              rw [List.getElem?_append_right (by rw [HL.out]; omega), HL.out]
              simpa using HV.out
          clear O6 B6 O16 G16 K16 S16
          go_wp2_with fail
          exact ⟨⟨q + 1, L ++ [v], by omega, by go_num, Lib.hid (by rw [List.length_append, HL.out]; rfl), HW17, O17, G17, K17, S17⟩, by simp [intOf]; omega⟩
        · obtain rfl : q = k := by omega
          obtain ⟨zs, hcall, hz1, hz2, hz3⟩ := HFD.out L ⟨HL.out, HW.out⟩
          have HCALL := Lib.hid hcall
          have H1z := Lib.hid hz2
          have HZI : Hid ((Tryd.prog.info? 41).map (·.size) = some (pic s zs).size) := Lib.hid (by rw [pic_size _ _ hz1]; exact HSP.out)
          have HZZ : Hid (ZP.size = (pic s zs).size) := Lib.hid (by rw [pic_size _ _ hz1]; exact HZP.out)
          have O0 := Lib.hid (O.out.mono (Nat.zero_le _))
          generalize pic s zs = DZ at *
          clear hcall hz1 hz2 HSM HFD HW
          go_wp2_with fail
          refine (HCALL.out _ _ O0.out).mono ?_
          rintro e w18 ⟨rfl, b⟩
          have G18 : Hid (w18.heap[gs]? = some (.cells C 41 (0, 0))) := Lib.hid (by rw [b.block _ (Array.getElem?_eq_some_iff.1 G.out).1]; exact G.out)
          have G19 : Hid ((w18.alloc (.cells DZ 41)).heap[gs]? = some (.cells C 41 (0, 0))) := Lib.hid (by rw [heap_alloc_old _ _ (Array.getElem?_eq_some_iff.1 G18.out).1]; exact G18.out)
          have GZ19 : Hid ((w18.alloc (.cells DZ 41)).heap[w18.heap.size]? = some (.cells DZ 41 (0, 0))) := Lib.hid (h1_0 _ _)
          have K18 := Lib.hid (KK.out.trans (b.mono KK.out.size))
          have K19 := Lib.hid (K18.out.alloc K18.out.size (.cells DZ 41))
          clear b KK O O0 G G18 K18 HCALL
          go_wp2_with (first | (refine wpList_store_row rfl 41 (.tmp 57) (.tmp 329) rfl w18.heap.size DZ rfl rfl 41 ZP (h1_0 _ _) HZI.out HZZ.out H1z.out ?_; rw [World.setRow_alloc_new]; go_frame) | (refine wpList_load_row_g rfl 41 (.tmp 57) rfl w18.heap.size rfl 41 DZ (0, 0) _ GZ19.out Tryd.underlying41 rfl HZI.out ?_; go_frame) | (refine wpList_load_row_g rfl 41 (.tmp 51) rfl gs rfl 41 C (0, 0) _ G19.out Tryd.underlying41 rfl HCI.out ?_; go_frame))
          go_ret
          exact ⟨rfl, B0.out.trans (K19.out.mono B0.out.size)⟩

end Go.Proofs.YtclflnpbiiimiaaDoor
