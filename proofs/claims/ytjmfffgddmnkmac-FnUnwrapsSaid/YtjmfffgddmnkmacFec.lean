/- The law of unwrapping: its walk, first part. Condition: a code that can be read. -/
import Derived.Test.YtjmfffgddmnkmacM52
import Derived.Deep.RegionLaw
import Derived.Test.YtjmfffgddmnkmacFdj
import Derived.Test.YtjmfffgddmnkmacFdf
import Derived.Test.YtjmfffgddmnkmacFdh
import Derived.Test.YtjmfffgddmnkmacFdy
import Derived.Test.YtjmfffgddmnkmacM13
import Derived.Test.YtjmfffgddmnkmacIFl
import Derived.Test.YtjmfffgddmnkmacM38
import Derived.Test.YtjmfffgddmnkmacDr2
import Derived.Deep.CutBlock
import Derived.Deep.DeepCutAuto
import Derived.Deep.QuietTactic
import Derived.BigQuiet
namespace Go.Proofs.Ytjmfffgddmnkmac
open Go Go.RowKit

theorem shl_one (t : Nat) (ht : t ≤ 6) (w : World) : (binOp .shl 2 (.int .i64 1) (.int .u64 (t : Int))).run Try.prog w = .ok (.int .i64 ((2 ^ t : Nat) : Int)) w := by
  have h : t = 0 ∨ t = 1 ∨ t = 2 ∨ t = 3 ∨ t = 4 ∨ t = 5 ∨ t = 6 := by omega
  rcases h with rfl | rfl | rfl | rfl | rfl | rfl | rfl <;> rfl

theorem shl_wrap (t : Nat) (ht : t ≤ 3) : wrap64 (2 ^ t) = ((2 ^ t : Nat) : Int) := by
  have : t = 0 ∨ t = 1 ∨ t = 2 ∨ t = 3 := by omega
  rcases this with rfl | rfl | rfl | rfl <;> (unfold wrap64; decide)
theorem tmod_ne {z : Int} (h : (z.tmod 64 != 0) = true) : z % 64 ≠ 0 := by
  intro e
  have : z.tmod 64 = 0 := Int.tmod_eq_zero_of_dvd (Int.dvd_of_emod_eq_zero e)
  rw [this] at h
  simp at h

set_option maxRecDepth 100000 in
set_option maxHeartbeats 40000000 in
theorem unwraps_walk (ad : Option Addr) (len cap : Nat) (w : World) (hc : Code ad len w) (hb : ¬ 4096 < len) :
    Calls Try.prog 3 #[.slice ad len cap] w fun e w' => e = .returned (.bool true) ∧ Below w.heap.size w w' := by
  have hd : decide (4096 < len) = false := by simp; omega
  have HC := Lib.hid hc
  have hzw := (zero_of_info info37').1
  have HSW := Lib.hid (zero_of_info info37').2
  have HZW : Hid ((pic 0 zc).size = 65) := Lib.hid (pic_size 0 zc zc_size)
  have hnw := pic_ne
  generalize pic 0 zc = ZW at *
  clear hc
  go_enter Try.func3, Try.ntmps3
  go_wp2_with fail
  refine (big_any _ _ _ _).mono ?_
  rw [hd]
  rintro e w' ⟨rfl, rfl⟩
  clear hd hb
  go_wp2_with fail
  refine (drawUr_any ad len cap _ HC.out).mono ?_
  rintro e w1 ⟨n, v, L, rfl, hL, o, b1⟩
  obtain ⟨k1, e1, l1, h1, g1⟩ := bothUr n L hL
  obtain ⟨k2, e2, l2, h2, g2⟩ := bothRs n L hL
  obtain ⟨c, ec⟩ : ∃ c, codeW n L = c := ⟨_, rfl⟩
  rw [ec] at h1 g1 h2 g2
  have HL := Lib.hid hL
  have EC := Lib.hid ec
  have E1 := Lib.hid e1
  have E2 := Lib.hid e2
  have L1 := Lib.hid l1
  have L2 := Lib.hid l2
  have I1 := Lib.hid h1
  have M1 := Lib.hid g1
  have I2 := Lib.hid h2
  have M2 := Lib.hid g2
  have hcc : (c != c) = false := by simp
  obtain ⟨a0, c0, rfl, _⟩ := o.came
  have O1 := Lib.hid (o.mono (Nat.zero_le _))
  have B1 := Lib.hid b1
  clear hL ec e1 e2 l1 l2 h1 g1 h2 g2 o b1
  generalize L.length = q at *
  go_wp2_with fail
  refine (I1.out _ _ O1.out).mono ?_
  rintro e w2 ⟨a1, p1, rfl, o, _, b⟩
  have B2 := Lib.hid (B1.out.trans (b.mono B1.out.size))
  have O2 := Lib.hid (O1.out.below b (Nat.le_refl _))
  have R2 := Lib.hid (o.mono (Nat.zero_le _))
  clear o b B1 O1 I1
  go_wp2_with fail
  refine (M1.out _ _ O2.out).mono ?_
  rintro e w3 ⟨a2, p2, rfl, o, _, b⟩
  have B3 := Lib.hid (B2.out.trans (b.mono B2.out.size))
  have O3 := Lib.hid (O2.out.below b (Nat.le_refl _))
  have R3 := Lib.hid (R2.out.below b (Nat.le_refl _))
  have T3 := Lib.hid (o.mono (Nat.zero_le _))
  clear o b B2 O2 R2 M1
  go_wp2_with fail
  refine (I2.out _ _ O3.out).mono ?_
  rintro e w4 ⟨a3, p3, rfl, o, _, b⟩
  have B4 := Lib.hid (B3.out.trans (b.mono B3.out.size))
  have O4 := Lib.hid (O3.out.below b (Nat.le_refl _))
  have R4 := Lib.hid (R3.out.below b (Nat.le_refl _))
  have T4 := Lib.hid (T3.out.below b (Nat.le_refl _))
  have D4 := Lib.hid (o.mono (Nat.zero_le _))
  clear o b B3 O3 R3 T3 I2
  go_wp2_with fail
  refine (M2.out _ _ O4.out).mono ?_
  rintro e w5 ⟨a4, p4, rfl, o, _, b⟩
  have B5 := Lib.hid (B4.out.trans (b.mono B4.out.size))
  have O5 := Lib.hid (O4.out.below b (Nat.le_refl _))
  have R5 := Lib.hid (R4.out.below b (Nat.le_refl _))
  have T5 := Lib.hid (T4.out.below b (Nat.le_refl _))
  have D5 := Lib.hid (D4.out.below b (Nat.le_refl _))
  have S5 := Lib.hid (o.mono (Nat.zero_le _))
  clear o b B4 O4 R4 T4 D4 M2
  go_wp2_with fail
  refine (likeI _ _ k1 p1 p2 _ _ (own_cameN R5.out) (own_cameN T5.out) L1.out).mono ?_
  rintro e u ⟨rfl, d, rfl⟩
  have B6 := Lib.hid (below_drewN B5.out d)
  have O6 := Lib.hid (own_drewN O5.out d)
  have R6 := Lib.hid (own_drewN R5.out d)
  have D6 := Lib.hid (own_drewN D5.out d)
  have S6 := Lib.hid (own_drewN S5.out d)
  generalize w5.drewN d = w6 at *
  clear B5 O5 R5 T5 D5 S5
  go_wp2_with fail
  refine (likeI _ _ k2 p3 p4 _ _ (own_cameN D6.out) (own_cameN S6.out) L2.out).mono ?_
  rintro e u ⟨rfl, d, rfl⟩
  have B7 := Lib.hid (below_drewN B6.out d)
  have O7 := Lib.hid (own_drewN O6.out d)
  have R7 := Lib.hid (own_drewN R6.out d)
  have D7 := Lib.hid (own_drewN D6.out d)
  generalize w6.drewN d = w7 at *
  clear B6 O6 R6 D6 S6
  go_upto_if 114 with fail
  go_cut [] (fun wx => Hid (Below w'.heap.size w' wx))
  case first => as_aux_lemma =>
    by_cases h0 : c = 0
    · subst h0
      obtain ⟨m, N, hnm, hN, hl, hm1, hm8, h64, hs, hL, r1, r2, r3, r4, F, f1, f2, f3, f4, f5, f6⟩ := both_ways EC.out
      subst hnm
      obtain rfl : N = q := by have h := (own_cameN O7.out).1; omega
      obtain rfl : N = k1 := by have h := E1.out; rw [r1, unw_len] at h; exact h
      have ek : (m - 1) * (m - 1) = k2 := by have h := E2.out; rw [r2, resPre_len] at h; exact h
      have R8 := Lib.hid (show Own 0 (.slice a1 N p1) (unw m L N) w7 from by have h := R7.out; rw [r1] at h; exact h)
      have D8 := Lib.hid (show Own 0 (.slice a3 k2 p3) (resPre m (m - 1) L k2) w7 from by have h := D7.out; rw [r2, ek] at h; exact h)
      have W1 := implAns (by rw [unw_len]; omega) _ _ _ (implWh (m : Int) (unw m L N)) N (by rw [r4]; exact hl)
      have W2 := implAns (by rw [f3]; omega) _ _ _ (implWh (m : Int) F) N (by rw [f5]; exact hl)
      rw [r3, r4] at W1
      rw [f4, f5] at W2
      obtain ⟨k3, e3, _, FL, _⟩ := bothFl (m : Int) m 0 0 L (flatD m) (by omega) (flatD_wav m)
      rw [f2, f3] at e3
      subst e3
      rw [f1, f2] at FL
      have FA := flat_ans hs
      have hwv := flatD_wav m
      have hcl : (∀ i, i < k2 → (resPre m (m - 1) L k2).getD i 0 = 0) → (∀ i, i < N → (i % m + 1 < m → (L.getD (i + 1) 0 - L.getD i 0 - 32) % 64 ≠ 0) ∧ (i + m < N → (L.getD (i + m) 0 - L.getD i 0 - 32) % 64 ≠ 0)) → F = unw m L N := fun h1 h2 => f6 (clean_of (by rw [ek]; exact h1) h2)
      clear r1 r2 r3 r4 f1 f2 f4 f5 f6
      have hk2 : k2 ≤ 64 := by rw [← ek]; exact Nat.le_trans (Nat.mul_le_mul (show m - 1 ≤ 8 by omega) (show m - 1 ≤ 8 by omega)) (by decide)
      generalize unw m L N = U at *
      generalize resPre m (m - 1) L k2 = RR at *
      generalize flatD m = D at *
      have HCL := Lib.hid hcl
      have HV := Lib.hid hL
      have HFA := Lib.hid FA
      have HFL := Lib.hid FL
      have HW1 := Lib.hid W1
      have HW2 := Lib.hid W2
      have HNN := Lib.hid hN
      have HDI : Hid ((Try.prog.info? 33).map (·.size) = some D.size) := Lib.hid (by rw [hwv.1]; exact HSW.out)
      have HZD : Hid (ZW.size = D.size) := Lib.hid (by rw [hwv.1]; exact HZW.out)
      have H1D := Lib.hid (wav_one hwv)
      have hwN : IntKind.i64.wrap ((m : Int) * (m : Int)) = (N : Int) := by rw [← Int.natCast_mul, hN]; exact IntWalk.i64_in _ (by omega)
      have hwm : IntKind.i64.wrap ((m : Int) - 1) = (m : Int) - 1 := IntWalk.i64_in _ (by omega)
      have hm0 : ¬ m = 0 := by omega
      have h00 : ((0 : Int) != 0) = false := rfl
      clear hcl hL FA FL W1 W2 hN hwv ek E1 E2 L1 L2 EC HL R7 D7 hcc hl f3
      go_wp2_with fail
      refine (HW1.out _ _ R8.out).mono ?_
      rintro e u1 ⟨b1, g1, rfl, o, _, b⟩
      have B8 := Lib.hid (B7.out.trans (b.mono B7.out.size))
      have O8 := Lib.hid (O7.out.below b (Nat.le_refl _))
      have R9 := Lib.hid (R8.out.below b (Nat.le_refl _))
      have D9 := Lib.hid (D8.out.below b (Nat.le_refl _))
      have Q9 := Lib.hid (o.mono (Nat.zero_le _))
      clear o b B7 O7 R8 D8 HW1
      go_wp2_with fail
      refine (HFA.out _).mono ?_
      rintro e u2 ⟨rfl, b⟩
      have bA := (Below.refl u2.heap.size u2).alloc (Nat.le_refl _) (.cells D 33)
      have C1 := B8.out.trans (b.mono B8.out.size)
      have CA := Lib.hid (C1.trans (bA.mono C1.size))
      have OA := Lib.hid ((O8.out.below b (Nat.le_refl _)).below bA (Nat.le_refl _))
      have RA := Lib.hid ((R9.out.below b (Nat.le_refl _)).below bA (Nat.le_refl _))
      have DA := Lib.hid ((D9.out.below b (Nat.le_refl _)).below bA (Nat.le_refl _))
      have QA := Lib.hid ((Q9.out.below b (Nat.le_refl _)).below bA (Nat.le_refl _))
      have GA : Hid ((u2.alloc (.cells D 33)).heap[u2.heap.size]? = some (.cells D 33 (0, 0))) := Lib.hid (h1_0 _ _)
      clear b bA C1 B8 O8 R9 D9 Q9 HFA
      go_wp2_with (first | (refine wpList_store_row rfl 33 (.tmp 15) (.tmp 124) rfl u2.heap.size D rfl rfl 33 ZW (h1_0 _ _) HDI.out HZD.out H1D.out ?_; rw [World.setRow_alloc_new]; go_frame) | (refine wpList_load_row_g rfl 33 (.tmp 15) rfl u2.heap.size rfl 33 D (0, 0) _ GA.out Try.underlying33 rfl HDI.out ?_; go_frame))
      generalize u2.alloc (.cells D 33) = u3 at *
      generalize u2.heap.size = gb at *
      clear GA HDI HZD H1D HSW HZW
      refine (HFL.out _ _ OA.out).mono ?_
      rintro e u4 ⟨a6, p6, rfl, o, _, b⟩
      have C4 := Lib.hid (CA.out.trans (b.mono CA.out.size))
      have O4 := Lib.hid (OA.out.below b (Nat.le_refl _))
      have R4 := Lib.hid (RA.out.below b (Nat.le_refl _))
      have D4 := Lib.hid (DA.out.below b (Nat.le_refl _))
      have Q4 := Lib.hid (QA.out.below b (Nat.le_refl _))
      have F4 := Lib.hid (o.mono (Nat.zero_le _))
      clear o b CA OA RA DA QA HFL
      go_wp2_with fail
      refine (likeI _ _ N g1 c0 _ _ (own_cameN Q4.out) (own_cameN O4.out) (by omega)).mono ?_
      rintro e u ⟨rfl, d, rfl⟩
      have C5 := Lib.hid (below_drewN C4.out d)
      have O5 := Lib.hid (own_drewN O4.out d)
      have R5 := Lib.hid (own_drewN R4.out d)
      have D5 := Lib.hid (own_drewN D4.out d)
      have F5 := Lib.hid (own_drewN F4.out d)
      generalize u4.drewN d = u5 at *
      clear C4 O4 R4 D4 Q4 F4
      go_wp2_with fail
      go_loopw [19, 20] (fun cl i wr => ∃ (k : Nat) (b : Bool), k ≤ k2 ∧ cl = .bool b ∧ i = .int .i64 k ∧ Hid (b = true → ∀ j, j < k → RR.getD j 0 = 0) ∧ wr = u5) (fun _ i _ => k2 - (intOf i).toNat)
      case atStart => as_aux_lemma =>
        exact ⟨0, true, by omega, rfl, rfl, Lib.hid (fun _ j hj => absurd hj (by omega)), rfl⟩
      case round => as_aux_lemma =>
        obtain ⟨k, b, hk, rfl, rfl, HB, hwr⟩ := hrel
        obtain rfl := hwr.symm
        by_cases hlt : k < k2
        · as_aux_lemma =>
          have hdk : decide ((k : Int) < (k2 : Int)) = true := by simp; omega
          clear HCL HV HW2 HNN C5 O5 R5 F5
          cases b
          · go_wp2_with fail
            exact ⟨⟨k + 1, false, by omega, rfl, by go_num, Lib.hid (fun h => by cases h), trivial⟩, by simp [intOf]; omega⟩
          · obtain ⟨bb, oo, rfl, _, hcells⟩ := (own_cameN D5.out).2 (by omega)
            have p := hcells k hlt
            obtain ⟨z, hz⟩ : ∃ z, RR.getD k 0 = z := ⟨_, rfl⟩
            rw [hz] at p
            have HZ := Lib.hid hz
            have hk0 : (0 : Int) ≤ (k : Int) := by omega
            have hkL : (k : Int) < (k2 : Int) := by omega
            clear hcells hz D5
            go_wp2_with fail
            refine ⟨⟨k + 1, z == 0, by omega, rfl, by go_num, Lib.hid (fun h j hj => ?_), trivial⟩, by simp [intOf]; omega⟩
            by_cases hjk : j < k
            · exact HB.out rfl j hjk
            · obtain rfl : j = k := by omega
              rw [HZ.out]; simpa using h
        · as_aux_lemma =>
          obtain rfl : k = k2 := by omega
          have hdk : decide ((k : Int) < (k : Int)) = false := by simp
          clear D5
          go_wp2_with fail
          go_loopw [19, 21] (fun cl i wx => ∃ (i' : Nat) (b2 : Bool) (d : Nat), i' ≤ N ∧ cl = .bool b2 ∧ i = .int .i64 i' ∧ Hid (b2 = true → b = true ∧ ∀ j, j < i' → (j % m + 1 < m → (L.getD (j + 1) 0 - L.getD j 0 - 32) % 64 ≠ 0) ∧ (j + m < N → (L.getD (j + m) 0 - L.getD j 0 - 32) % 64 ≠ 0)) ∧ Hid (wx = u5.drewN d)) (fun _ i _ => N - (intOf i).toNat)
          case atStart => as_aux_lemma =>
            exact ⟨0, b, 0, by omega, rfl, rfl, Lib.hid (fun h => ⟨h, fun j hj => absurd hj (by omega)⟩), Lib.hid rfl⟩
          case round => as_aux_lemma =>
            obtain ⟨i', b2, d, hi, rfl, rfl, HB2, HW⟩ := hrel
            by_cases hin : i' < N
            · as_aux_lemma =>
              have hdi : decide ((i' : Int) < (N : Int)) = true := by simp; omega
              clear HCL HW2 R5 F5 HB C5
              obtain ⟨bb, oo, rfl, _, hcells⟩ := (own_cameN O5.out).2 (by omega)
              have HC5 := Lib.hid hcells
              have hx : i' % m < m := Nat.mod_lt _ (by omega)
              obtain ⟨x1, hx1⟩ : ∃ x, i' % m = x := ⟨_, rfl⟩
              have hmod : ((i' : Int)).tmod (m : Int) = (x1 : Int) := by rw [Int.tmod_eq_emod_of_nonneg (by omega), ← Int.natCast_emod, hx1]
              have HX1 := Lib.hid hx1
              rw [hx1] at hx
              clear hcells hx1 O5
              go_upto_if 175 with fail
              go_cut [19] (fun x wy => ∃ (b3 : Bool) (d3 : Nat), x = .bool b3 ∧ Hid (b3 = true → b2 = true ∧ (i' % m + 1 < m → (L.getD (i' + 1) 0 - L.getD i' 0 - 32) % 64 ≠ 0)) ∧ Hid (wy = u5.drewN d3))
              case first => as_aux_lemma =>
                by_cases hin1 : x1 + 1 < m
                · have hdx : decide ((x1 : Int) < (m : Int) - 1) = true := by simp; omega
                  cases b2
                  · go_wp2_with fail
                    go_quiet (fail)
                    go_wp2_with fail
                    go_meet
                    exact ⟨false, d + nq, rfl, Lib.hid (fun h => by cases h), Lib.hid (by rw [HW.out]; exact drewN_twoI u5 d nq)⟩
                  · have hk1 : i' + 1 < N := right_lt m i' N HNN.out (by rw [HX1.out]; omega) hin
                    obtain ⟨j1, hj1⟩ : ∃ j, i' + 1 = j := ⟨_, rfl⟩
                    have hjw : IntKind.i64.wrap ((i' : Int) + 1) = (j1 : Int) := by rw [← hj1]; exact IntWalk.i64_in _ (by omega)
                    have HJ := Lib.hid hj1
                    rw [hj1] at hk1
                    have p0 : wr.cell? ⟨bb, oo + i', none⟩ = some (.int .i64 (L.getD i' 0)) := by rw [HW.out]; exact HC5.out i' hin
                    have p1 : wr.cell? ⟨bb, oo + j1, none⟩ = some (.int .i64 (L.getD j1 0)) := by rw [HW.out]; exact HC5.out j1 hk1
                    have v0 := HV.out i'
                    have v1 := HV.out j1
                    obtain ⟨g0, e0⟩ : ∃ h, L.getD i' 0 = h := ⟨_, rfl⟩
                    obtain ⟨g1, e1⟩ : ∃ h, L.getD j1 0 = h := ⟨_, rfl⟩
                    rw [e0] at p0 v0
                    rw [e1] at p1 v1
                    have E0 := Lib.hid e0
                    have E1 := Lib.hid e1
                    have s1 : IntKind.i64.wrap (g1 - g0) = g1 - g0 := IntWalk.i64_in _ (by omega)
                    have s2 : IntKind.i64.wrap (g1 - g0 - 32) = g1 - g0 - 32 := IntWalk.i64_in _ (by omega)
                    have i0 : (0 : Int) ≤ (i' : Int) := by omega
                    have i1 : (i' : Int) < (N : Int) := by omega
                    have i2 : (0 : Int) ≤ (j1 : Int) := by omega
                    have i3 : (j1 : Int) < (N : Int) := by omega
                    clear e0 e1 v0 v1 hj1 HC5
                    go_wp2_with fail
                    go_quiet (fail)
                    go_wp2_with fail
                    go_meet
                    refine ⟨(g1 - g0 - 32).tmod 64 != 0, d + nq, rfl, Lib.hid (fun h => ⟨by first | rfl | trivial, fun _ => ?_⟩), Lib.hid (by rw [HW.out]; exact drewN_twoI u5 d nq)⟩
                    rw [HJ.out, E0.out, E1.out]
                    exact tmod_ne h
                · have hdx : decide ((x1 : Int) < (m : Int) - 1) = false := by simp; omega
                  go_wp2_with fail
                  go_meet
                  exact ⟨b2, d, rfl, Lib.hid (fun h => ⟨h, fun h2 => absurd h2 (by rw [HX1.out]; exact hin1)⟩), HW⟩
              case rest => as_aux_lemma =>
              obtain ⟨b3, d3, rfl, HB3, HW3⟩ := hcut
              generalize wc = wd at *
              clear HW hmod HX1 hx
              obtain ⟨jm, hjm⟩ : ∃ j, i' + m = j := ⟨_, rfl⟩
              have hjmw : IntKind.i64.wrap ((i' : Int) + (m : Int)) = (jm : Int) := by rw [← hjm]; exact IntWalk.i64_in _ (by omega)
              have HJM := Lib.hid hjm
              clear hjm
              have hfn : ∀ b4 : Bool, (b4 = true → b3 = true ∧ (i' + m < N → (L.getD (i' + m) 0 - L.getD i' 0 - 32) % 64 ≠ 0)) → b4 = true → b = true ∧ ∀ j, j < i' + 1 → (j % m + 1 < m → (L.getD (j + 1) 0 - L.getD j 0 - 32) % 64 ≠ 0) ∧ (j + m < N → (L.getD (j + m) 0 - L.getD j 0 - 32) % 64 ≠ 0) := fun b4 h4 h => by
                obtain ⟨t1, t2⟩ := h4 h
                obtain ⟨t3, t4⟩ := HB3.out t1
                obtain ⟨t5, t6⟩ := HB2.out t3
                refine ⟨t5, fun j hj => ?_⟩
                by_cases hji : j < i'
                · exact t6 j hji
                · obtain rfl : j = i' := by omega
                  exact ⟨t4, t2⟩
              have HFN := Lib.hid hfn
              clear hfn HB3 HB2
              by_cases hin1 : jm < N
              · as_aux_lemma =>
                have hdx : decide ((jm : Int) < (N : Int)) = true := by simp; omega
                cases b3
                · as_aux_lemma =>
                  go_wp2_with fail
                  go_quiet (fail)
                  go_wp2_with fail
                  exact ⟨⟨i' + 1, false, d3 + nq, by omega, rfl, by go_num, Lib.hid (HFN.out false (fun h => by cases h)), Lib.hid (by rw [HW3.out]; exact drewN_twoI u5 d3 nq)⟩, by simp [intOf]; omega⟩
                · as_aux_lemma =>
                  have p0 : wd.cell? ⟨bb, oo + i', none⟩ = some (.int .i64 (L.getD i' 0)) := by rw [HW3.out]; exact HC5.out i' hin
                  have p1 : wd.cell? ⟨bb, oo + jm, none⟩ = some (.int .i64 (L.getD jm 0)) := by rw [HW3.out]; exact HC5.out jm hin1
                  have v0 := HV.out i'
                  have v1 := HV.out jm
                  obtain ⟨g0, e0⟩ : ∃ h, L.getD i' 0 = h := ⟨_, rfl⟩
                  obtain ⟨g1, e1⟩ : ∃ h, L.getD jm 0 = h := ⟨_, rfl⟩
                  rw [e0] at p0 v0
                  rw [e1] at p1 v1
                  have E0 := Lib.hid e0
                  have E1 := Lib.hid e1
                  have s1 : IntKind.i64.wrap (g1 - g0) = g1 - g0 := IntWalk.i64_in _ (by omega)
                  have s2 : IntKind.i64.wrap (g1 - g0 - 32) = g1 - g0 - 32 := IntWalk.i64_in _ (by omega)
                  have i0 : (0 : Int) ≤ (i' : Int) := by omega
                  have i1 : (i' : Int) < (N : Int) := by omega
                  have i2 : (0 : Int) ≤ (jm : Int) := by omega
                  have i3 : (jm : Int) < (N : Int) := by omega
                  clear e0 e1 v0 v1 HC5
                  go_wp2_with fail
                  go_quiet (fail)
                  go_wp2_with fail
                  refine ⟨⟨i' + 1, (g1 - g0 - 32).tmod 64 != 0, d3 + nq, by omega, rfl, by go_num, Lib.hid (HFN.out _ (fun h => ⟨by first | rfl | trivial, fun _ => ?_⟩)), Lib.hid (by rw [HW3.out]; exact drewN_twoI u5 d3 nq)⟩, by simp [intOf]; omega⟩
                  rw [HJM.out, E0.out, E1.out]
                  exact tmod_ne h
              · as_aux_lemma =>
                have hdx : decide ((jm : Int) < (N : Int)) = false := by simp; omega
                go_wp2_with fail
                exact ⟨⟨i' + 1, b3, d3, by omega, rfl, by go_num, Lib.hid (HFN.out b3 (fun h => ⟨h, fun h2 => absurd h2 (by rw [HJM.out]; exact hin1)⟩)), HW3⟩, by simp [intOf]; omega⟩
            · as_aux_lemma =>
              obtain rfl : i' = N := by omega
              have hdi : decide ((i' : Int) < (i' : Int)) = false := by simp
              have hfin : b2 = true → F = U := fun h => HCL.out (HB.out (HB2.out h).1) (fun j hj => (HB2.out h).2 j hj)
              have HF := Lib.hid hfin
              have O6 := Lib.hid (show Own 0 _ L wr from by rw [HW.out]; exact own_drewN O5.out d)
              have R6 := Lib.hid (show Own 0 _ U wr from by rw [HW.out]; exact own_drewN R5.out d)
              have F6 := Lib.hid (show Own 0 _ F wr from by rw [HW.out]; exact own_drewN F5.out d)
              have C6 := Lib.hid (show Below w'.heap.size w' wr from by rw [HW.out]; exact below_drewN C5.out d)
              clear hfin HW HB HB2 HCL O5 R5 F5 C5 HV HNN
              go_upto_region 28 with fail
              cases b2
              · as_aux_lemma =>
                clear R6 HF
                go_wp2_with fail
                refine (HW2.out _ _ F6.out).mono ?_
                rintro e z1 ⟨a8, p8, rfl, o, _, b⟩
                have C8 := Lib.hid (C6.out.trans (b.mono C6.out.size))
                have O8 := Lib.hid (O6.out.below b (Nat.le_refl _))
                have Q8 := Lib.hid (o.mono (Nat.zero_le _))
                clear o b C6 O6 F6 HW2
                go_wp2_with fail
                refine (likeI _ _ i' p8 c0 _ _ (own_cameN Q8.out) (own_cameN O8.out) (by omega)).mono ?_
                rintro e u ⟨rfl, d9, rfl⟩
                have C9 := Lib.hid (below_drewN C8.out d9)
                clear C8 O8 Q8
                go_wp2_with fail
                go_meet
                exact C9
              · as_aux_lemma =>
                have he := HF.out rfl
                have F7 : Hid (Own 0 (.slice a6 i' p6) U wr) := Lib.hid (by rw [← he]; exact F6.out)
                clear he HF
                go_wp2_with fail
                refine (likeI _ _ i' p6 p1 _ _ (own_cameN F7.out) (own_cameN R6.out) (by omega)).mono ?_
                rintro e u ⟨rfl, d8, rfl⟩
                have F8 := Lib.hid (own_drewN F6.out d8)
                have O7 := Lib.hid (own_drewN O6.out d8)
                have C7 := Lib.hid (below_drewN C6.out d8)
                generalize wr.drewN d8 = wz at *
                clear F6 O6 C6 F7 R6
                go_wp2_with fail
                refine (HW2.out _ _ F8.out).mono ?_
                rintro e z1 ⟨a8, p8, rfl, o, _, b⟩
                have C8 := Lib.hid (C7.out.trans (b.mono C7.out.size))
                have O8 := Lib.hid (O7.out.below b (Nat.le_refl _))
                have Q8 := Lib.hid (o.mono (Nat.zero_le _))
                clear o b C7 O7 F8 HW2
                go_wp2_with fail
                refine (likeI _ _ i' p8 c0 _ _ (own_cameN Q8.out) (own_cameN O8.out) (by omega)).mono ?_
                rintro e u ⟨rfl, d9, rfl⟩
                have C9 := Lib.hid (below_drewN C8.out d9)
                clear C8 O8 Q8
                go_wp2_with fail
                go_meet
                exact C9
    · have hc0 : (c == 0) = false := by simp [h0]
      go_wp2_with fail
      go_meet
      exact B7
  case rest => as_aux_lemma =>
  have B8 : Hid (Below w'.heap.size w' wc) := hcut
  clear hcut B7 O7 R7 D7 L1 L2 E1 E2 EC HL hcc
  generalize wc = w8 at *
  go_wp2_with fail
  refine (drawFl_any ad len cap _ (HC.out.below B8.out)).mono ?_
  rintro e x1 ⟨m, v2, H2, s, D, y, x, rfl, hL2, o, hD, b⟩
  obtain ⟨k3, e3, l3, h3, g3⟩ := bothFl m s y x H2 D hL2 hD
  generalize codeFl m s y x H2 D = c2 at *
  have L3 := Lib.hid l3
  have I3 := Lib.hid h3
  have M3 := Lib.hid g3
  have HDI : Hid ((Try.prog.info? 33).map (·.size) = some D.size) := Lib.hid (by rw [hD.1]; exact HSW.out)
  have HZD : Hid (ZW.size = D.size) := Lib.hid (by rw [hD.1]; exact HZW.out)
  have H1D := Lib.hid (wav_one hD)
  have hcc2 : (c2 != c2) = false := by simp
  obtain ⟨a5, c5, rfl, _⟩ := o.came
  have C1 := Lib.hid (B8.out.trans (b.mono B8.out.size))
  have O1 := Lib.hid (o.mono (Nat.zero_le _))
  have C2 := Lib.hid (C1.out.alloc C1.out.size (.cells D 33))
  have O2 := Lib.hid (O1.out.below ((Below.refl x1.heap.size x1).alloc (Nat.le_refl _) (.cells D 33)) (Nat.le_refl _))
  have G2 : Hid ((x1.alloc (.cells D 33)).heap[x1.heap.size]? = some (.cells D 33 (0, 0))) := Lib.hid (h1_0 _ _)
  clear e3 l3 h3 g3 o b hL2 hD B8 C1 O1
  generalize H2.length = q2 at *
  go_wp2_with (first | (refine wpList_store_row rfl 33 (.tmp 26) (.tmp 242) rfl x1.heap.size D rfl rfl 33 ZW (h1_0 _ _) HDI.out HZD.out H1D.out ?_; rw [World.setRow_alloc_new]; go_frame) | (refine wpList_load_row_g rfl 33 (.tmp 26) rfl x1.heap.size rfl 33 D (0, 0) _ G2.out Try.underlying33 rfl HDI.out ?_; go_frame))
  generalize x1.alloc (.cells D 33) = x2 at *
  generalize x1.heap.size = gb at *
  refine (I3.out _ _ O2.out).mono ?_
  rintro e x3 ⟨a6, p6, rfl, o, _, b⟩
  have C3 := Lib.hid (C2.out.trans (b.mono C2.out.size))
  have O3 := Lib.hid (O2.out.below b (Nat.le_refl _))
  have R3 := Lib.hid (o.mono (Nat.zero_le _))
  have G3 : Hid (x3.heap[gb]? = some (.cells D 33 (0, 0))) := Lib.hid (by rw [b.block _ (Array.getElem?_eq_some_iff.1 G2.out).1]; exact G2.out)
  clear o b C2 O2 G2 I3
  go_wp2_with (refine wpList_load_row_g rfl 33 (.tmp 26) rfl gb rfl 33 D (0, 0) _ G3.out Try.underlying33 rfl HDI.out ?_; go_frame)
  refine (M3.out _ _ O3.out).mono ?_
  rintro e x4 ⟨a7, p7, rfl, o, _, b⟩
  have C4 := Lib.hid (C3.out.trans (b.mono C3.out.size))
  have R4 := Lib.hid (R3.out.below b (Nat.le_refl _))
  have T4 := Lib.hid (o.mono (Nat.zero_le _))
  clear o b C3 O3 R3 G3 M3 HDI HZD H1D
  go_wp2_with fail
  refine (drawWd_any ad len cap _ (HC.out.below C4.out)).mono ?_
  rintro e x5 ⟨h, k, rfl, b⟩
  obtain ⟨d, c3, ed, hd⟩ := bothWD h k
  have ID := Lib.hid (implWD_any h k)
  have MD := Lib.hid (specWD_any h k)
  rw [ed] at ID MD
  have HD := Lib.hid hd
  have C5 := Lib.hid (C4.out.trans (b.mono C4.out.size))
  have R5 := Lib.hid (R4.out.below b (Nat.le_refl _))
  have T5 := Lib.hid (T4.out.below b (Nat.le_refl _))
  have hcc3 : (c3 != c3) = false := by simp
  have hdd : (d != d) = false := by simp
  clear hd ed b C4 R4 T4
  go_wp2_with fail
  refine (ID.out _).mono ?_
  rintro e x6 ⟨rfl, rfl⟩
  go_wp2_with fail
  refine (MD.out _).mono ?_
  rintro e x6 ⟨rfl, rfl⟩
  clear ID MD
  go_wp2_with fail
  refine (likeI _ _ k3 p6 p7 _ _ (own_cameN R5.out) (own_cameN T5.out) L3.out).mono ?_
  rintro e u ⟨rfl, d5, rfl⟩
  have C6 := Lib.hid (below_drewN C5.out d5)
  generalize World.drewN _ d5 = x6 at *
  clear C5 R5 T5 L3
  go_upto_region 41 with fail
  go_cut [317] (fun x wx => x = .bool false ∧ Hid (Below w'.heap.size w' wx))
  case first => as_aux_lemma =>
    rcases HD.out with ⟨rfl, g1, g2, g3, g4, g5⟩ | g
    · have g6 : decide (d < -32) = false := by simp; omega
      have g7 : decide (31 < d) = false := by simp; omega
      have g8 : (((k - h - d).tmod 64) != 0) = false := by rw [g5]; rfl
      clear g1 g2 g5
      go_wp2_with fail
      go_meet
      exact ⟨rfl, C6⟩
    · have g1 : (c3 == 0) = false := by simp [g]
      clear g
      go_wp2_with fail
      go_meet
      exact ⟨rfl, C6⟩
  case rest => as_aux_lemma =>
  obtain ⟨rfl, C7⟩ := hcut
  clear C6 HD hcc3 hdd hcc2
  generalize wc = x7 at *
  go_wp2_with fail
  refine (drawSl_any ad len cap _ (HC.out.below C7.out)).mono ?_
  rintro e y1 ⟨n2, v3, P, rfl, hP, o, b⟩
  obtain ⟨k4, e4, l4, h4, g4⟩ := bothSl n2 P hP
  generalize codeM n2 P = c4 at *
  have L4 := Lib.hid l4
  have I4 := Lib.hid h4
  have M4 := Lib.hid g4
  have hcc4 : (c4 != c4) = false := by simp
  obtain ⟨a8, p8, rfl, _⟩ := o.came
  have D1 := Lib.hid (C7.out.trans (b.mono C7.out.size))
  have O1 := Lib.hid (o.mono (Nat.zero_le _))
  clear e4 l4 h4 g4 o b hP C7
  generalize P.length = q3 at *
  go_wp2_with fail
  refine (I4.out _ _ O1.out).mono ?_
  rintro e y2 ⟨a9, p9, rfl, o, _, b⟩
  have D2 := Lib.hid (D1.out.trans (b.mono D1.out.size))
  have O2 := Lib.hid (O1.out.below b (Nat.le_refl _))
  have R2 := Lib.hid (o.mono (Nat.zero_le _))
  clear o b D1 O1 I4
  go_wp2_with fail
  refine (M4.out _ _ O2.out).mono ?_
  rintro e y3 ⟨a10, p10, rfl, o, _, b⟩
  have D3 := Lib.hid (D2.out.trans (b.mono D2.out.size))
  have R3 := Lib.hid (R2.out.below b (Nat.le_refl _))
  have T3 := Lib.hid (o.mono (Nat.zero_le _))
  clear o b D2 O2 R2 M4
  go_wp2_with fail
  refine (likeI _ _ k4 p9 p10 _ _ (own_cameN R3.out) (own_cameN T3.out) L4.out).mono ?_
  rintro e u ⟨rfl, d6, rfl⟩
  have D4 := Lib.hid (below_drewN D3.out d6)
  generalize y3.drewN d6 = y4 at *
  clear D3 R3 T3 L4
  go_wp2_with fail
  refine (roll_of 992 (by decide) (by decide) ad len cap _ (HC.out.below D4.out)).mono ?_
  rintro e z1 ⟨p, rfl, hp, hp2, s1, b⟩
  have E1 := Lib.hid (D4.out.trans (b.mono D4.out.size))
  have HPB : Hid (w'.heap.size ≤ p) := Lib.hid (Nat.le_trans D4.out.size hp)
  have S1 := Lib.hid s1
  clear s1 b hp hp2 D4
  go_wp2_with fail
  refine (below_any p 4 _ S1.out).mono ?_
  rintro e z2 ⟨t, rfl, ht0, ht, s2, r2⟩
  obtain ⟨tn, rfl⟩ : ∃ tn : Nat, t = tn := ⟨t.toNat, by omega⟩
  have ht3 : tn ≤ 3 := by omega
  have hwu : IntKind.u64.wrap (tn : Int) = tn := by rw [IntKind.wrap_u64]; omega
  have HSH := shl_one tn (by omega)
  obtain ⟨mm, hm, hm1, hm8, hms⟩ : ∃ mm : Nat, 2 ^ tn = mm ∧ 1 ≤ mm ∧ mm ≤ 8 ∧ side (mm : Int) = true := ⟨_, rfl, by
    have : tn = 0 ∨ tn = 1 ∨ tn = 2 ∨ tn = 3 := by omega
    rcases this with rfl | rfl | rfl | rfl <;> decide⟩
  have hsh2 : wrap64 (2 ^ tn) = (mm : Int) := by rw [← hm]; exact shl_wrap tn ht3
  rw [hm] at HSH
  have HMS := Lib.hid hms
  have E2 := Lib.hid (r2.after E1.out HPB.out (Nat.le_refl _))
  have S2 := Lib.hid s2
  clear ht0 ht s2 r2 E1 S1 hm hms
  go_wp2_with fail
  refine (below_any p 63 _ S2.out).mono ?_
  rintro e z3 ⟨r, rfl, hr0, hr, s3, r3⟩
  obtain ⟨uu, hu, hu1, hu2⟩ : ∃ uu : Int, r - 31 = uu ∧ -31 ≤ uu ∧ uu ≤ 31 := ⟨_, rfl, by omega, by omega⟩
  have hwU : IntKind.i64.wrap (r - 31) = uu := by rw [hu]; exact IntWalk.i64_in _ (by omega)
  have E3 := Lib.hid (r3.after E2.out HPB.out (Nat.le_refl _))
  have S3 := Lib.hid s3
  clear hr0 hr s3 r3 E2 S2 hu
  go_wp2_with fail
  refine (below_any p 63 _ S3.out).mono ?_
  rintro e z4 ⟨r', rfl, hr0, hr, s4, r4⟩
  obtain ⟨vv, hv, hv1, hv2⟩ : ∃ vv : Int, r' - 31 = vv ∧ -31 ≤ vv ∧ vv ≤ 31 := ⟨_, rfl, by omega, by omega⟩
  have hwV : IntKind.i64.wrap (r' - 31) = vv := by rw [hv]; exact IntWalk.i64_in _ (by omega)
  have E4 := Lib.hid (r4.after E3.out HPB.out (Nat.le_refl _))
  clear hr0 hr s4 r4 E3 S3 hv
  obtain ⟨N, hN⟩ : ∃ N, mm * mm = N := ⟨_, rfl⟩
  have hN64 : N ≤ 64 := by rw [← hN]; exact Nat.mul_le_mul hm8 hm8
  have hwN : IntKind.i64.wrap ((mm : Int) * (mm : Int)) = (N : Int) := by rw [← Int.natCast_mul, hN]; exact IntWalk.i64_in _ (by omega)
  have HN := Lib.hid hN
  clear hN
  have hm0 : ¬ mm = 0 := by omega
  go_wp2_with fail
  go_loopw [49, 50] (fun q i wr => ∃ k : Nat, k ≤ N ∧ i = .int .i64 k ∧ Hid (Own w'.heap.size q (plL mm uu vv k) wr) ∧ Hid (Below w'.heap.size w' wr)) (fun _ i _ => N - (intOf i).toNat)
  case atStart => as_aux_lemma =>
    exact ⟨0, by omega, rfl, Lib.hid (Own.empty _ _ E4.out.size), Lib.hid (E4.out.alloc E4.out.size _)⟩
  case round => as_aux_lemma =>
    clear E4
    obtain ⟨k, hk, rfl, O, B⟩ := hrel
    by_cases hlt : k < N
    · have hdk : decide ((k : Int) < (N : Int)) = true := by simp; omega
      have hsm := plH_small hm1 hm8 ⟨hu1, hu2⟩ ⟨hv1, hv2⟩ (i := k) (by rw [HN.out]; exact hlt)
      have HX := Lib.hid (plL_succ mm uu vv k)
      have HZ : Hid ((plL mm uu vv k).length ≤ 1048576) := Lib.hid (by rw [plL_len]; omega)
      have hdf : plH mm uu vv k = uu * ((k % mm : Nat) : Int) + vv * ((k / mm : Nat) : Int) := rfl
      obtain ⟨y1, hy⟩ : ∃ y, k / mm = y := ⟨_, rfl⟩
      obtain ⟨x1, hx⟩ : ∃ x, k % mm = x := ⟨_, rfl⟩
      rw [hy, hx] at hsm hdf
      have hdiv : ((k : Int)).tdiv (mm : Int) = (y1 : Int) := by rw [Int.tdiv_eq_ediv_of_nonneg (by omega), ← Int.natCast_ediv, hy]
      have hmod : ((k : Int)).tmod (mm : Int) = (x1 : Int) := by rw [Int.tmod_eq_emod_of_nonneg (by omega), ← Int.natCast_emod, hx]
      have hyw : IntKind.i64.wrap (y1 : Int) = y1 := IntWalk.i64_in _ (by omega)
      have a1 := small_mulP uu x1 ⟨hu1, hu2⟩ hsm.1
      have a2 := small_mulP vv y1 ⟨hv1, hv2⟩ hsm.2.1
      obtain ⟨z1, hz1⟩ : ∃ z, uu * (x1 : Int) = z := ⟨_, rfl⟩
      obtain ⟨z2, hz2⟩ : ∃ z, vv * (y1 : Int) = z := ⟨_, rfl⟩
      rw [hz1, hz2] at hdf
      have hw1 : IntKind.i64.wrap (uu * (x1 : Int)) = z1 := by rw [hz1]; rw [hz1] at a1; exact IntWalk.i64_in _ (by omega)
      have hw2 : IntKind.i64.wrap (vv * (y1 : Int)) = z2 := by rw [hz2]; rw [hz2] at a2; exact IntWalk.i64_in _ (by omega)
      rw [hz1] at a1
      rw [hz2] at a2
      have hw3 : IntKind.i64.wrap (z1 + z2) = z1 + z2 := IntWalk.i64_in _ (by omega)
      rw [hdf] at HX
      have HBS : Hid (w'.heap.size ≤ (wr.alloc (.cells #[.int .i64 (z1 + z2)] 2)).drew.heap.size) := Lib.hid (by have := B.out.size; simp; omega)
      have HYC : Hid ((wr.alloc (.cells #[.int .i64 (z1 + z2)] 2)).drew.cell? ⟨wr.heap.size, 0, none⟩ = some (.int .i64 (z1 + z2))) := Lib.hid (World.cell?_alloc_at _ _ _ _ rfl)
      clear hsm hdf hx hy a1 a2 hz1 hz2
      generalize plL mm uu vv k = U at *
      go_wp2_with fail
      go_region_held3 (fun _ => True) (trivial) ((refine step_push _ (by rfl) _ _ (by rfl) w'.heap.size _ U (z1 + z2) ⟨wr.heap.size, 0, none⟩ (by rfl) (by rfl) HYC.out ((O.out.alloc _).drew) HZ.out HBS.out ?_; intro v' w1 O2 O0 B2))
      have O3 := Lib.hid (O2.one HX.out.symm)
      have B3 := Lib.hid (B.out.trans (((Below.refl _ _).alloc (by have := B.out.size; omega) _).drew.trans B2))
      clear O2 B2
      go_wp2
      exact ⟨⟨k + 1, by omega, by go_num, O3, B3⟩, by simp [intOf]; omega⟩
    · obtain rfl : k = N := by omega
      have hdk : decide ((k : Int) < (k : Int)) = false := by simp
      have hpl := plane_all hm1 hm8 HMS.out ⟨hu1, hu2⟩ ⟨hv1, hv2⟩
      rw [HN.out] at hpl
      have hP65 : (plL mm uu vv k).length ≤ 65 := by rw [plL_len]; omega
      have hlen := plL_len mm uu vv k
      generalize plL mm uu vv k = P at *
      obtain ⟨q1, q2, q3, q4, s, t, q5, q6⟩ := hpl
      have ib := implAns hP65 _ _ _ (implWh (mm : Int) P) k (by rw [q2, List.length_map]; exact hlen)
      have iu := implAns (by rw [List.length_map]; exact hP65) _ _ _ (implUr (mm : Int) (P.map wrapH)) k (by rw [q4]; exact hlen)
      have il := implAns hP65 _ _ _ (implSl (mm : Int) P) 2 (by rw [q5]; rfl)
      rw [q1, q2] at ib
      rw [q3, q4] at iu
      rw [q1, q5] at il
      have IB := Lib.hid ib
      have IU := Lib.hid iu
      have IL := Lib.hid il
      have HQ := Lib.hid q6
      clear q1 q2 q3 q4 q5 q6 ib iu il hP65
      obtain ⟨ad3, cp3, e0, _⟩ := O.out.came
      subst e0
      rw [hlen] at O ⊢
      have O1 : Hid (Own 0 (.slice ad3 k cp3) P wr) := Lib.hid (O.out.mono (Nat.zero_le _))
      clear hlen O
      go_wp2_with fail
      refine (IB.out _ _ O1.out).mono ?_
      rintro e t1 ⟨b1, g1, rfl, o, _, b⟩
      have B2 := Lib.hid (B.out.trans (b.mono B.out.size))
      have O2 := Lib.hid (O1.out.below b (Nat.le_refl _))
      have W2 := Lib.hid (o.mono (Nat.zero_le _))
      clear o b O1 B IB
      go_wp2_with fail
      refine (IU.out _ _ W2.out).mono ?_
      rintro e t2 ⟨b2, g2, rfl, o, _, b⟩
      have B3 := Lib.hid (B2.out.trans (b.mono B2.out.size))
      have O3 := Lib.hid (O2.out.below b (Nat.le_refl _))
      have W3 := Lib.hid (o.mono (Nat.zero_le _))
      clear o b O2 B2 W2 IU
      go_wp2_with fail
      refine (IL.out _ _ W3.out).mono ?_
      rintro e t3 ⟨b3, g3, rfl, o, _, b⟩
      have B4 := Lib.hid (B3.out.trans (b.mono B3.out.size))
      have O4 := Lib.hid (O3.out.below b (Nat.le_refl _))
      have W4 := Lib.hid (W3.out.below b (Nat.le_refl _))
      have T4 := Lib.hid (o.mono (Nat.zero_le _))
      clear o b O3 B3 W3 IL
      go_wp2_with fail
      refine (likeI _ _ k g2 cp3 _ _ (own_cameN W4.out) (own_cameN O4.out) (by omega)).mono ?_
      rintro e u5 ⟨rfl, d7, rfl⟩
      have B5 := Lib.hid (below_drewN B4.out d7)
      have T5 := Lib.hid (own_drewN T4.out d7)
      generalize t3.drewN d7 = t5 at *
      clear B4 O4 W4 T4
      obtain ⟨bb, oo, rfl, _, hcells⟩ := (own_cameN T5.out).2 (by omega)
      have p1 : t5.cell? ⟨bb, oo, none⟩ = some (.int .i64 s) := hcells 0 (by omega)
      have p2 : t5.cell? ⟨bb, oo + 1, none⟩ = some (.int .i64 t) := hcells 1 (by omega)
      clear hcells
      by_cases hone : mm = 1
      · have hq : ((mm : Int) == 1) = true := by simp; omega
        clear HQ
        go_wp2_with fail
        go_ret
        exact ⟨rfl, B5.out⟩
      · obtain ⟨hs1, ht1⟩ := HQ.out hone
        rw [hs1] at p1
        rw [ht1] at p2
        have hq : ((mm : Int) == 1) = false := by simp; omega
        have e1 : (uu == uu) = true := by simp
        have e2 : (vv == vv) = true := by simp
        clear HQ hs1 ht1
        go_wp2_with fail
        go_ret
        exact ⟨rfl, B5.out⟩
end Go.Proofs.Ytjmfffgddmnkmac
