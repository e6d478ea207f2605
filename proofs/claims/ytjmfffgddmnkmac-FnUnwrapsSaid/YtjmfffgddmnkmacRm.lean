/- ResiduesOf: what the model answers. Condition: a list that a law lets in. -/
import Derived.Test.YtjmfffgddmnkmacM10
import Derived.Deep.QuietTactic
import Derived.BigQuiet
namespace Go.Proofs.Ytjmfffgddmnkmac
open Go Go.RowKit

set_option maxRecDepth 100000 in
set_option maxHeartbeats 1600000 in
theorem specRs_no (n : Int) (L : List Int) (hc0 : codeW n L ≠ 0) : Lists 10 n L [] (codeW n L) := by
  intro hn v w hO
  obtain ⟨a, cap, rfl, hC⟩ := hO.came
  have HI := Lib.hid (l07Code_any n a L.length cap L w hC hn)
  have hq : (codeW n L != 0) = true := by simpa using hc0
  clear hC hO hc0
  generalize codeW n L = c at *
  go_enter Try.func10, Try.ntmps10
  go_wp2_with fail
  refine HI.out.mono ?_
  rintro e w1 ⟨rfl, rfl⟩
  go_wp2_with fail
  go_ret2
  exact ⟨_, rfl, Own.zero _ _, Below.refl _ _⟩

/-- where the four cells lie -/
theorem place4 (m y x N : Nat) (hm : m * m = N) (hy : y + 1 < m) (hx : x + 1 < m) : m * y + m + x + 1 < N := by
  rw [← hm]
  have h1 : m * (y + 2) ≤ m * m := Nat.mul_le_mul_left _ (by omega)
  have h2 : m * (y + 2) = m * y + m + m := by rw [Nat.mul_add, Nat.mul_comm m 2]; omega
  omega

set_option maxRecDepth 100000 in
set_option maxHeartbeats 3200000 in
theorem specRs_yes (n : Int) (L : List Int) (hc0 : codeW n L = 0) : Lists 10 n L (resPre n.toNat (n.toNat - 1) L ((n.toNat - 1) * (n.toNat - 1))) 0 := by
  intro hn v w hO
  obtain ⟨hm, hW⟩ := codeW_zero hc0
  obtain ⟨m, rfl, hm1, hm8, hlen⟩ := isMap_nat hm
  obtain ⟨b, cap, rfl, _, hb⟩ := hO.form (isMap_pos hm)
  obtain ⟨a', cap', e', hC⟩ := hO.came
  cases e'
  have HI := Lib.hid (l07Code_any m (some ⟨b, 0, none⟩) L.length cap L w hC hn)
  rw [hc0] at HI
  have HCell : Hid (∀ i, i < L.length → w.cell? ⟨b, i, none⟩ = some (.int .i64 (L.getD i 0))) := Lib.hid (fun i hi => hO.cell i hi)
  have HB : Hid (b < w.heap.size) := Lib.hid hb
  have HW := Lib.hid (fun i => isW_getD hW i)
  rw [show (m : Int).toNat = m from by simp]
  have HP := Lib.hid (fun y x => place4 m y x L.length hlen.symm)
  have hN64 : L.length ≤ 64 := map_le hm
  clear hC hO hm hW hb hc0 hlen
  obtain ⟨M, hM⟩ : ∃ M, m - 1 = M := ⟨_, rfl⟩
  rw [hM]
  have HR := Lib.hid (resPre_succ m M L)
  have HRL := Lib.hid (resPre_len m M L)
  generalize hN : L.length = N at *
  clear hN
  have HMm : Hid (m = M + 1) := Lib.hid (by omega)
  have hM7 : M ≤ 7 := by omega
  have HMM : Hid (M * M ≤ 49) := Lib.hid (Nat.le_trans (Nat.mul_le_mul (show M ≤ 7 by omega) (show M ≤ 7 by omega)) (by decide))
  clear hM
  go_enter Try.func10, Try.ntmps10
  go_wp2_with fail
  refine HI.out.mono ?_
  rintro e w1 ⟨rfl, rfl⟩
  go_wp2_with fail
  go_loopw [7, 8] (fun v i wr => ∃ y : Nat, y ≤ M ∧ i = .int .i64 y ∧ Hid (Own w.heap.size v (resPre m M L (M * y)) wr) ∧ Hid (Below w.heap.size w wr)) (fun _ i _ => M - (intOf i).toNat)
  case atStart => exact ⟨0, by omega, rfl, Lib.hid (Own.empty _ _ (Nat.le_refl _)), Lib.hid ((Below.refl _ _).alloc (Nat.le_refl _) _)⟩
  case round =>
    obtain ⟨y, hy, rfl, O, B⟩ := hrel
    by_cases hlt : y < M
    · have hdy : decide ((y : Int) + 1 < (m : Int)) = true := by have := HMm.out; simp; omega
      go_wp2_with fail
      go_loopw [7, 9] (fun v i wr => ∃ x : Nat, x ≤ M ∧ i = .int .i64 x ∧ Hid (Own w.heap.size v (resPre m M L (M * y + x)) wr) ∧ Hid (Below w.heap.size w wr)) (fun _ i _ => M - (intOf i).toNat)
      case atStart => exact ⟨0, by omega, rfl, O, B⟩
      case round =>
        obtain ⟨x, hx, rfl, O, B⟩ := hrel
        by_cases hlt2 : x < M
        · have hdx : decide ((x : Int) + 1 < (m : Int)) = true := by have := HMm.out; simp; omega
          have hpl := HP.out y x (by have := HMm.out; omega) (by have := HMm.out; omega)
          have HRR := Lib.hid (HR.out y x hlt2)
          have HZ : Hid ((resPre m M L (M * y + x)).length ≤ 1048576) := Lib.hid (by
            rw [HRL.out]
            have h1 : M * y ≤ M * M := Nat.mul_le_mul_left _ hy
            have := HMM.out
            omega)
          have HC4 : Hid (resCell m L y x = res4 (L.getD (m * y + x) 0) (L.getD (m * y + x + 1) 0) (L.getD (m * y + m + x + 1) 0) (L.getD (m * y + m + x) 0)) := Lib.hid rfl
          have hm8' : m ≤ 8 := by have := HMm.out; omega
          have hA : IntKind.i64.wrap ((m : Int) * (y : Int)) = ((m * y : Nat) : Int) := by rw [← Int.natCast_mul]; exact IntWalk.i64_in _ (by omega)
          generalize resCell m L y x = r at *
          generalize resPre m M L (M * y + x) = R at *
          generalize m * y = p at *
          have hB : IntKind.i64.wrap ((p : Int) + (x : Int)) = ((p + x : Nat) : Int) := by rw [Int.natCast_add]; exact IntWalk.i64_in _ (by omega)
          have hC : IntKind.i64.wrap (((p + x : Nat) : Int) + 1) = ((p + x + 1 : Nat) : Int) := by rw [Int.natCast_add (p + x)]; exact IntWalk.i64_in _ (by omega)
          have hD : IntKind.i64.wrap ((p : Int) + (m : Int)) = ((p + m : Nat) : Int) := by rw [Int.natCast_add]; exact IntWalk.i64_in _ (by omega)
          have hE : IntKind.i64.wrap (((p + m : Nat) : Int) + (x : Int)) = ((p + m + x : Nat) : Int) := by rw [Int.natCast_add (p + m)]; exact IntWalk.i64_in _ (by omega)
          have hF : IntKind.i64.wrap (((p + m + x : Nat) : Int) + 1) = ((p + m + x + 1 : Nat) : Int) := by rw [Int.natCast_add (p + m + x)]; exact IntWalk.i64_in _ (by omega)
          have c0 := (B.out.cell (p := ⟨b, p + x, none⟩) HB.out).trans (HCell.out _ (by omega))
          have c1 := (B.out.cell (p := ⟨b, p + x + 1, none⟩) HB.out).trans (HCell.out _ (by omega))
          have c2 := (B.out.cell (p := ⟨b, p + m + x + 1, none⟩) HB.out).trans (HCell.out _ (by omega))
          have c3 := (B.out.cell (p := ⟨b, p + m + x, none⟩) HB.out).trans (HCell.out _ (by omega))
          have g0 := HW.out (p + x)
          have g1 := HW.out (p + x + 1)
          have g2 := HW.out (p + m + x + 1)
          have g3 := HW.out (p + m + x)
          generalize L.getD (p + x) 0 = a0 at *
          generalize L.getD (p + x + 1) 0 = a1 at *
          generalize L.getD (p + m + x + 1) 0 = a2 at *
          generalize L.getD (p + m + x) 0 = a3 at *
          have j0 : ((p + x : Nat) : Int) < (N : Int) := by omega
          have j1 : ((p + x + 1 : Nat) : Int) < (N : Int) := by omega
          have j2 : ((p + m + x + 1 : Nat) : Int) < (N : Int) := by omega
          have j3 : ((p + m + x : Nat) : Int) < (N : Int) := by omega
          clear hpl hm8'
          generalize p + m + x + 1 = i2 at *
          generalize p + m + x = i3 at *
          generalize p + m = q at *
          generalize p + x + 1 = i1 at *
          generalize p + x = i0 at *
          go_wp2_with fail
          go_quiet (fail)
          have O' : Hid (Own w.heap.size u7 R (wr.drewN nq)) := Lib.hid O.out
          have B' : Hid (Below w.heap.size w (wr.drewN nq)) := Lib.hid (B.out.trans (Below.drewn nq))
          clear c0 c1 c2 c3 O B hA hB hC hD hE hF j0 j1 j2 j3
          generalize wr.drewN nq = v at *
          have HLs := Lib.hid (fun (a b : Int) (ha : 0 ≤ a ∧ a ≤ 63) (hb : 0 ≤ b ∧ b ≤ 63) w => l07Less_any a b (by omega) (by omega) w)
          have l1 := lessH_range a0 a1
          have l2 := lessH_range a1 a2
          have l3 := lessH_range a2 a3
          have l4 := lessH_range a3 a0
          have h1 := HLs.out a0 a1 g0 g1
          have h2 := HLs.out a1 a2 g1 g2
          have h3 := HLs.out a2 a3 g2 g3
          have h4 := HLs.out a3 a0 g3 g0
          have HE4 : Hid (r = (lessH a0 a1 + lessH a1 a2 + lessH a2 a3 + lessH a3 a0).tdiv 64) := HC4
          clear HLs HC4
          generalize lessH a0 a1 = d1 at *
          generalize lessH a1 a2 = d2 at *
          generalize lessH a2 a3 = d3 at *
          generalize lessH a3 a0 = d4 at *
          have H1 := Lib.hid h1
          have H2 := Lib.hid h2
          have H3 := Lib.hid h3
          have H4 := Lib.hid h4
          clear h1 h2 h3 h4
          go_wp2_with fail
          refine (H1.out _).mono ?_
          rintro e w1 ⟨rfl, rfl⟩
          go_wp2_with fail
          refine (H2.out _).mono ?_
          rintro e w1 ⟨rfl, rfl⟩
          go_wp2_with fail
          refine (H3.out _).mono ?_
          rintro e w1 ⟨rfl, rfl⟩
          go_wp2_with fail
          refine (H4.out _).mono ?_
          rintro e w1 ⟨rfl, rfl⟩
          go_wp2_with (at_builtin; refine wpList_push rfl (.tmp 71) (.tmp 88) rfl w.heap.size _ R _ rfl rfl O'.out HZ.out B'.out.size ?_)
          intro v' w2 O2 B2
          rw [← HE4.out] at O2
          have O3 := Lib.hid (O2.one HRR.out)
          have B3 := Lib.hid (B'.out.trans B2)
          clear O2 B2
          go_wp2
          exact ⟨⟨x + 1, by omega, by go_num, O3, B3⟩, by simp [intOf]; omega⟩
        · obtain rfl : x = M := by omega
          have hdx : decide ((x : Int) + 1 < (m : Int)) = false := by have := HMm.out; simp; omega
          have O3 : Hid (Own w.heap.size u7 (resPre m x L (x * (y + 1))) wr) := Lib.hid (by rw [show x * (y + 1) = x * y + x by rw [Nat.mul_succ]]; exact O.out)
          go_wp2
          exact ⟨⟨y + 1, by omega, by go_num, O3, B⟩, by simp [intOf]; omega⟩
    · obtain rfl : y = M := by omega
      have hdy : decide ((y : Int) + 1 < (m : Int)) = false := by have := HMm.out; simp; omega
      go_wp2
      go_ret2
      exact ⟨_, rfl, O.out, B.out⟩

end Go.Proofs.Ytjmfffgddmnkmac
