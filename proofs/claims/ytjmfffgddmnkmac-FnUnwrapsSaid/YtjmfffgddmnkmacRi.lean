/- ResiduesOf: what the program answers. Condition: a list that a law lets in. -/
import Derived.Test.YtjmfffgddmnkmacRm
namespace Go.Proofs.Ytjmfffgddmnkmac
open Go Go.RowKit
attribute [local go_sem ↓] Go.wp_at_zero Go.wp_at_succ

set_option maxRecDepth 100000 in
set_option maxHeartbeats 1600000 in
theorem implRs_no (n : Int) (L : List Int) (hc0 : codeW n L ≠ 0) : Lists 9 n L [] (codeW n L) := by
  intro hn v w hO
  obtain ⟨a, cap, rfl, hC⟩ := hO.came
  have HI := Lib.hid (checkW_any n a L.length cap L w hC hn)
  have hq : (codeW n L != 0) = true := by simpa using hc0
  clear hC hO hc0
  generalize codeW n L = c at *
  go_enter Try.func9, Try.ntmps9
  go_wp2_with fail
  refine HI.out.mono ?_
  rintro e w1 ⟨rfl, rfl⟩
  go_wp2_with fail
  go_ret2
  exact ⟨_, rfl, Own.zero _ _, Below.refl _ _⟩

set_option maxRecDepth 100000 in
set_option maxHeartbeats 3200000 in
theorem implRs_yes (n : Int) (L : List Int) (hc0 : codeW n L = 0) : Lists 9 n L (resPre n.toNat (n.toNat - 1) L ((n.toNat - 1) * (n.toNat - 1))) 0 := by
  intro hn v w hO
  obtain ⟨hm, hW⟩ := codeW_zero hc0
  obtain ⟨m, rfl, hm1, hm8, hlen⟩ := isMap_nat hm
  obtain ⟨b, cap, rfl, _, hb⟩ := hO.form (isMap_pos hm)
  obtain ⟨a', cap', e', hC⟩ := hO.came
  cases e'
  have hcap : L.length ≤ cap := hO.cap.2.1
  have HI := Lib.hid (checkW_any m (some ⟨b, 0, none⟩) L.length cap L w hC hn)
  rw [hc0] at HI
  have HCell : Hid (∀ i, i < L.length → w.cell? ⟨b, i, none⟩ = some (.int .i64 (L.getD i 0))) := Lib.hid (fun i hi => hO.cell i hi)
  have HB : Hid (b < w.heap.size) := Lib.hid hb
  have HW := Lib.hid (fun i => isW_getD hW i)
  rw [show (m : Int).toNat = m from by simp]
  have HP := Lib.hid (fun y x => place4 m y x L.length hlen.symm)
  have hN64 : L.length ≤ 64 := map_le hm
  have HRow := Lib.hid (fun y (hy : y < m) w => rowOf_ints b 0 m y L.length cap ⟨hm1, hm8⟩ hy hlen.symm hcap w)
  clear hC hO hm hW hb hc0 hlen
  obtain ⟨M, hM⟩ : ∃ M, m - 1 = M := ⟨_, rfl⟩
  rw [hM]
  have HR := Lib.hid (resPre_succ m M L)
  have HRL := Lib.hid (resPre_len m M L)
  generalize hN : L.length = N at *
  clear hN
  have HMm : Hid (m = M + 1) := Lib.hid (by omega)
  have hM7 : M ≤ 7 := by omega
  have HMM : Hid (M * M ≤ 49) := Lib.hid (Nat.le_trans (Nat.mul_le_mul (show M ≤ 7 by omega) (show M ≤ 7 by omega)) (by decide))
  have hMw : IntKind.i64.wrap ((m : Int) - 1) = (M : Int) := by have := HMm.out; rw [show (m : Int) - 1 = (M : Int) by omega]; exact IntWalk.i64_in _ (by omega)
  have hMM : IntKind.i64.wrap (M : Int) = (M : Int) := IntWalk.i64_in _ (by omega)
  have hMs : (m : Int) - 1 = (M : Int) := by have := HMm.out; omega
  clear hM hcap
  go_enter Try.func9, Try.ntmps9
  go_wp2_with fail
  refine HI.out.mono ?_
  rintro e w1 ⟨rfl, rfl⟩
  go_wp2_with fail
  go_loopw [7, 21] (fun v i wr => ∃ y : Nat, y ≤ M ∧ i = .int .i64 y ∧ Hid (Own w.heap.size v (resPre m M L (M * y)) wr) ∧ Hid (Below w.heap.size w wr)) (fun _ i _ => M - (intOf i).toNat)
  case atStart => exact ⟨0, by omega, rfl, Lib.hid (Own.zero _ _), Lib.hid (Below.refl _ _)⟩
  case round =>
    obtain ⟨y, hy, rfl, O, B⟩ := hrel
    by_cases hlt : y < M
    · have hdy : decide ((y : Int) < (M : Int)) = true := by simp; omega
      have HU1 := Lib.hid (HRow.out y (by have := HMm.out; omega))
      have HU2 : Hid (∀ w, Calls Try.prog 35 #[.slice (some ⟨b, 0, none⟩) N cap, .int .i64 m, .int .i64 ((y : Int) + 1)] w fun e w' => e = .returned (.slice (some ⟨b, 0 + m * (y + 1), none⟩) m m) ∧ w = w') := Lib.hid (HRow.out (y + 1) (by have := HMm.out; omega))
      rw [Nat.zero_add] at HU1 HU2
      rw [Nat.mul_succ] at HU2
      have HPP := Lib.hid (fun x (hx : x + 1 < m) => HP.out y x (by have := HMm.out; omega) hx)
      have HC4 : Hid (∀ x, resCell m L y x = res4 (L.getD (m * y + x) 0) (L.getD (m * y + x + 1) 0) (L.getD (m * y + m + x + 1) 0) (L.getD (m * y + m + x) 0)) := Lib.hid (fun _ => rfl)
      generalize m * y = p at *
      go_wp2_with fail
      refine (HU1.out _).mono ?_
      rintro e w1 ⟨rfl, rfl⟩
      go_wp2_with fail
      refine (HU2.out _).mono ?_
      rintro e w1 ⟨rfl, rfl⟩
      go_wp2_with fail
      go_loopw [7, 35] (fun v i wr => ∃ x : Nat, x ≤ M ∧ i = .int .i64 x ∧ Hid (Own w.heap.size v (resPre m M L (M * y + x)) wr) ∧ Hid (Below w.heap.size w wr)) (fun _ i _ => M - (intOf i).toNat)
      case atStart => exact ⟨0, by omega, rfl, O, B⟩
      case round =>
        obtain ⟨x, hx, rfl, O, B⟩ := hrel
        by_cases hlt2 : x < M
        · have hdx : decide ((x : Int) < (M : Int)) = true := by simp; omega
          have hpl := HPP.out x (by have := HMm.out; omega)
          have HRR := Lib.hid (HR.out y x hlt2)
          have HZ : Hid ((resPre m M L (M * y + x)).length ≤ 1048576) := Lib.hid (by
            rw [HRL.out]
            have h1 : M * y ≤ M * M := Nat.mul_le_mul_left _ hy
            have := HMM.out
            omega)
          have HCC := Lib.hid (HC4.out x)
          have hx0 : (0 : Int) ≤ (x : Int) := by omega
          have hx1 : (x : Int) < (m : Int) := by have := HMm.out; omega
          have hx2 : ((x + 1 : Nat) : Int) < (m : Int) := by have := HMm.out; omega
          have hx3 : (0 : Int) ≤ ((x + 1 : Nat) : Int) := by omega
          have hxw : IntKind.i64.wrap ((x : Int) + 1) = ((x + 1 : Nat) : Int) := by rw [Int.natCast_add]; exact IntWalk.i64_in _ (by omega)
          have c0 := (B.out.cell (p := ⟨b, p + x, none⟩) HB.out).trans (HCell.out (p + x) (by omega))
          have c1 := (B.out.cell (p := ⟨b, p + (x + 1), none⟩) HB.out).trans (HCell.out (p + x + 1) (by omega))
          have c2 := (B.out.cell (p := ⟨b, p + m + (x + 1), none⟩) HB.out).trans (HCell.out (p + m + x + 1) (by omega))
          have c3 := (B.out.cell (p := ⟨b, p + m + x, none⟩) HB.out).trans (HCell.out (p + m + x) (by omega))
          have g0 := HW.out (p + x)
          have g1 := HW.out (p + x + 1)
          have g2 := HW.out (p + m + x + 1)
          have g3 := HW.out (p + m + x)
          have hbw : b < wr.heap.size := by have := HB.out; have := B.out.size; omega
          have HBW := Lib.hid hbw
          generalize resCell m L y x = r at *
          generalize resPre m M L (M * y + x) = R at *
          generalize L.getD (p + x) 0 = a0 at *
          generalize L.getD (p + x + 1) 0 = a1 at *
          generalize L.getD (p + m + x + 1) 0 = a2 at *
          generalize L.getD (p + m + x) 0 = a3 at *
          clear hpl
          generalize hx1e : x + 1 = x1 at *
          have HX1 := Lib.hid hx1e
          clear hx1e
          generalize p + m = q at *
          have HF := Lib.hid (residueAlong_four wr.heap.size a0 a1 a2 a3 (wr.alloc (.cells #[.int .i64 a0, .int .i64 a1, .int .i64 a2, .int .i64 a3, .int .i64 a0] 2)).drew g0 g1 g2 g3 (heap_alloc_new wr _))
          go_wp2_with fail
          go_region_held3 (fun w' => w'.cell? ⟨b, p + x, none⟩ = some (.int .i64 a0) ∧ w'.cell? ⟨b, p + x1, none⟩ = some (.int .i64 a1) ∧ w'.cell? ⟨b, q + x1, none⟩ = some (.int .i64 a2) ∧ w'.cell? ⟨b, q + x, none⟩ = some (.int .i64 a3))
            (go_keep)
            (first | (go_at_call 36; refine HF.out.mono ?_; rintro e w' ⟨rfl, rfl⟩))
          have O' : Hid (Own w.heap.size u7 R (wr.alloc (.cells #[.int .i64 a0, .int .i64 a1, .int .i64 a2, .int .i64 a3, .int .i64 a0] 2)).drew) := Lib.hid (O.out.alloc _).drew
          have B' : Hid (Below w.heap.size w (wr.alloc (.cells #[.int .i64 a0, .int .i64 a1, .int .i64 a2, .int .i64 a3, .int .i64 a0] 2)).drew) := Lib.hid (B.out.alloc B.out.size _).drew
          clear c0 c1 c2 c3 O B HF
          rw [← HCC.out]
          generalize (wr.alloc (.cells #[.int .i64 a0, .int .i64 a1, .int .i64 a2, .int .i64 a3, .int .i64 a0] 2)).drew = v at *
          go_wp2_with (at_builtin; refine wpList_push rfl (.tmp 62) (.tmp 64) rfl w.heap.size _ R _ rfl rfl O'.out HZ.out B'.out.size ?_)
          intro v' w2 O2 B2
          have O3 := Lib.hid (O2.one HRR.out)
          have B3 := Lib.hid (B'.out.trans B2)
          clear O2 B2
          go_wp2
          have e1 := HX1.out
          subst e1
          exact ⟨⟨x + 1, by omega, by first | rfl | go_num, O3, B3⟩, by simp [intOf]; omega⟩
        · obtain rfl : x = M := by omega
          have hdx : decide ((x : Int) < (x : Int)) = false := by simp
          have O3 : Hid (Own w.heap.size u7 (resPre m x L (x * (y + 1))) wr) := Lib.hid (by rw [show x * (y + 1) = x * y + x by rw [Nat.mul_succ]]; exact O.out)
          go_wp2
          exact ⟨⟨y + 1, by omega, by go_num, O3, B⟩, by simp [intOf]; omega⟩
    · obtain rfl : y = M := by omega
      have hdy : decide ((y : Int) < (y : Int)) = false := by simp
      go_wp2
      go_ret2
      exact ⟨_, rfl, O.out, B.out⟩

end Go.Proofs.Ytjmfffgddmnkmac
