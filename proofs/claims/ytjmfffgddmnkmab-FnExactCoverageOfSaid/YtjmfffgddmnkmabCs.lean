/- The model's coverage. Condition: a list that a law lets in. -/
import Derived.Test.YtjmfffgddmnkmabCq
import Derived.Deep.RegionHeld3
import Derived.Deep.RegionLaw
namespace Go.Proofs.Ytjmfffgddmnkmab
open Go Go.RowKit

theorem remN (y : Nat) (s : Int) : (y : Int).tmod s = (y : Int) % s := Int.tmod_eq_emod_of_nonneg (by omega)

set_option maxRecDepth 100000 in
set_option maxHeartbeats 6400000 in
theorem specCov_main (n m : Int) (k : Nat) (F : List Int) (hs1 : side n = true) (hs2 : side m = true) (hmn : m ≤ n) (hk20 : k ≤ 20) :
    Covs 45 n m k F (covR n m k F) (covC n m k F) := by
  intro hk v w hO
  obtain ⟨a, cap, rfl, hC⟩ := hO.came
  have HS1 := Lib.hid hs1
  have HS2 := Lib.hid hs2
  have HPat : Hid (arePat n m k F = areAt n F k) := Lib.hid (by
    unfold arePat
    rw [hs1, hs2, decide_eq_true hmn, decide_eq_true hk20]
    rfl)
  obtain ⟨N, rfl⟩ : ∃ N : Nat, n = N := ⟨n.toNat, by rcases side_yes n hs1 with rfl | rfl | rfl | rfl <;> rfl⟩
  obtain ⟨M, rfl⟩ : ∃ M : Nat, m = M := ⟨m.toNat, by rcases side_yes m hs2 with rfl | rfl | rfl | rfl <;> rfl⟩
  have hN8 : N ≤ 8 := by rcases side_yes _ hs1 with h | h | h | h <;> omega
  have hN1 : 0 < N := by rcases side_yes _ hs1 with h | h | h | h <;> omega
  have hM8 : M ≤ N := by omega
  have hg1 : decide ((M : Int) > (N : Int)) = false := by simp; omega
  have hg2 : decide ((k : Int) > 20) = false := by simp; omega
  have hwn : IntKind.i64.wrap ((N : Int) - 1) = (N : Int) - 1 := IntWalk.i64_in _ (by omega)
  have HC := Lib.hid (fun i hi => CameP.at hC i hi)
  obtain ⟨i0, hi, hz0, hz1, hz2⟩ := info_parts info64
  obtain ⟨K2, hK2⟩ : ∃ K2, N * N = K2 := ⟨_, rfl⟩
  have hn64 : K2 ≤ 64 := by rw [← hK2]; exact Nat.mul_le_mul hN8 hN8
  have hnn : IntKind.i64.wrap ((N : Int) * (N : Int)) = (K2 : Int) := by rw [← Int.natCast_mul, hK2]; exact IntWalk.i64_in _ (by omega)
  have HK2 := Lib.hid hK2
  clear hC hO hs1 hs2 hmn hK2
  have aa := Try.isAgg109
  have zz := Try.sizeOf109
  go_enter Try.func45, Try.ntmps45
  go_wp2_with fail
  refine (l01Side_any (N : Int) _).mono ?_
  rw [HS1.out]
  rintro e w1 ⟨rfl, rfl⟩
  go_wp2_with fail
  refine (l01Side_any (M : Int) _).mono ?_
  rw [HS2.out]
  rintro e w1 ⟨rfl, rfl⟩
  go_wp2_with (refine wpList_make_full _ rfl _ _ 36 rfl w.heap.size 2 i0 (.int .i64 0) 1 Try.underlying36 hi hz0 hz1 .i64 .i64 (K2 : Int) (K2 : Int) K2 rfl rfl rfl rfl ?b2 ?b3 ?b4 ?_)
  case b2 => rw [hz2]; omega
  case b3 => unfold maxLen; omega
  case b4 => exact Nat.le_refl _
  intro w2 hown hgrow
  have B2 : Hid (Below w.heap.size w w2) := Lib.hid ((Below.refl _ _).grown hgrow (Nat.le_refl _) (fun i hi => by cases hi))
  have O2 : Hid (Own w.heap.size (.slice (some ⟨w.heap.size, 0, none⟩) K2 K2) (covAll N M F 0) w2) := by
    refine Lib.hid ?_
    have e : (madeCells #[Value.int .i64 0] K2).toList = (covAll N M F 0).map (Value.int .i64) := by
      rw [toList_madeCells_one, covAll, HK2.out]
      simp
    rw [e] at hown
    unfold Own
    rw [covAll_len, HK2.out]
    exact hown
  clear hown hgrow hi hz0 hz1 hz2
  go_wp2_with fail
  go_loopw [9] (fun i wr => ∃ j : Nat, j ≤ k ∧ i = .int .i64 j ∧ Hid (areAt N F j = true) ∧ Hid (Own w.heap.size (.slice (some ⟨w.heap.size, 0, none⟩) K2 K2) (covAll N M F j) wr) ∧ Hid (Below w.heap.size w wr)) (fun i _ => k - (intOf i).toNat)
  case atStart => exact ⟨0, by omega, rfl, Lib.hid rfl, O2, B2⟩
  case round =>
    obtain ⟨j, hj, rfl, HA, OJ, BJ⟩ := hrel
    by_cases hlt : j < k
    · have hdk : decide ((j : Int) < (k : Int)) = true := by simp; omega
      have hj1 : IntKind.i64.wrap ((j : Int) + 1) = ((j + 1 : Nat) : Int) := by rw [← Int.natCast_succ]; exact IntWalk.i64_in _ (by omega)
      obtain ⟨b, off, rfl, hb, hc0, hc1⟩ := HC.out j hlt
      have c0 := (BJ.out.cell (p := ⟨b, off + j * 2, none⟩) hb).trans hc0
      have c1 := (BJ.out.cell (p := ⟨b, off + j * 2 + 1, none⟩) hb).trans hc1
      have HX0 := Lib.hid hc0
      have HX1 := Lib.hid hc1
      have HB := Lib.hid hb
      have HF : Hid (covMid N M (F.getD (j * 2) 0).toNat (F.getD (j * 2 + 1) 0).toNat (covAll N M F j) M = covAll N M F (j + 1)) := Lib.hid rfl
      have HAS := Lib.hid (areAt_succ (n := N) (F := F) (k := j) HA.out)
      have HAN := Lib.hid (fun e : isAt N (F.getD (j * 2) 0) (F.getD (j * 2 + 1) 0) = false => areAt_no e hlt)
      have HU := Lib.hid (upto_all N M F j)
      have HL : Hid ((covAll N M F j).length = N * N) := Lib.hid (covAll_len N M F j)
      clear hc0 hc1 hb HC
      generalize F.getD (j * 2) 0 = r0 at *
      generalize F.getD (j * 2 + 1) 0 = s0 at *
      go_wp2_with fail
      refine (l08Place_any (N : Int) r0 s0 hwn _).mono ?_
      have HQ : ∃ q, isAt N r0 s0 = q := ⟨_, rfl⟩
      obtain ⟨q, HQ⟩ := HQ
      rw [HQ]
      have HX := Lib.hid HQ
      clear HQ c0 c1
      rintro e w3 ⟨rfl, k3⟩
      have B3 := Lib.hid (BJ.out.trans (k3.mono BJ.out.size))
      have O3 := Lib.hid (OJ.out.below k3 (Nat.le_refl _))
      clear k3 BJ OJ
      cases q
      · have HR : Hid (covR (N : Int) (M : Int) k F = [] ∧ covC (N : Int) (M : Int) k F = 2) := Lib.hid (by
          unfold covR covC
          rw [HPat.out, HAN.out HX.out]
          exact ⟨rfl, rfl⟩)
        go_wp2_with fail
        go_ret2
        rw [HR.out.1, HR.out.2]
        exact ⟨.slice none 0 0, rfl, Own.zero _ _, B3.out⟩
      · obtain ⟨r, c, rfl, rfl, hr, hc⟩ := isAt_nat HX.out
        rw [Int.toNat_natCast, Int.toNat_natCast] at HF
        have HA1 := Lib.hid (HAS.out HX.out)
        clear HAS HAN HX HA
        go_wp2_with fail
        go_loopw [10] (fun i wv => ∃ y : Nat, y ≤ M ∧ i = .int .i64 y ∧ Hid (Own w.heap.size (.slice (some ⟨w.heap.size, 0, none⟩) K2 K2) (covMid N M r c (covAll N M F j) y) wv) ∧ Hid (Below w.heap.size w wv)) (fun i _ => M - (intOf i).toNat)
        case atStart => exact ⟨0, by omega, rfl, O3, B3⟩
        case round =>
          obtain ⟨y, hy, rfl, OY, BY⟩ := hrel
          by_cases hlty : y < M
          · have hdy : decide ((y : Int) < (M : Int)) = true := by simp; omega
            have hy1 : IntKind.i64.wrap ((y : Int) + 1) = ((y + 1 : Nat) : Int) := by rw [← Int.natCast_succ]; exact IntWalk.i64_in _ (by omega)
            have HF2 : Hid (covIn N r c y (covMid N M r c (covAll N M F j) y) M = covMid N M r c (covAll N M F j) (y + 1)) := Lib.hid rfl
            have HU2 := Lib.hid (HU.out.covMid N M r c y)
            have HL2 : Hid ((covMid N M r c (covAll N M F j) y).length = N * N) := Lib.hid (by rw [covMid_len]; exact HL.out)
            generalize covMid N M r c (covAll N M F j) y = G at *
            go_wp2_with fail
            go_loopw [11] (fun i wv => ∃ x : Nat, x ≤ M ∧ i = .int .i64 x ∧ Hid (Own w.heap.size (.slice (some ⟨w.heap.size, 0, none⟩) K2 K2) (covIn N r c y G x) wv) ∧ Hid (Below w.heap.size w wv)) (fun i _ => M - (intOf i).toNat)
            case atStart => exact ⟨0, by omega, rfl, OY, BY⟩
            case round =>
              obtain ⟨x, hx, rfl, OX, BX⟩ := hrel
              by_cases hltx : x < M
              · have hdx : decide ((x : Int) < (M : Int)) = true := by simp; omega
                have hx1 : IntKind.i64.wrap ((x : Int) + 1) = ((x + 1 : Nat) : Int) := by rw [← Int.natCast_succ]; exact IntWalk.i64_in _ (by omega)
                have c0 := (BX.out.cell (p := ⟨b, off + j * 2, none⟩) HB.out).trans HX0.out
                have c1 := (BX.out.cell (p := ⟨b, off + j * 2 + 1, none⟩) HB.out).trans HX1.out
                have hlt2 := cellAt_lt N r c y x hN1
                rw [HK2.out] at hlt2
                have HLX : Hid ((covIn N r c y G x).length = K2) := Lib.hid (by rw [covIn_len, HL2.out, HK2.out])
                have HBU : Hid (bump (covIn N r c y G x) (cellAt N r c y x) = covIn N r c y G (x + 1)) := Lib.hid rfl
                obtain ⟨z, hz⟩ : ∃ z, (covIn N r c y G x).getD (cellAt N r c y x) 0 = z := ⟨_, rfl⟩
                have hzb : 0 ≤ z ∧ z ≤ 1000000 := by
                  have h1 := HU2.out.covIn N r c y x (cellAt N r c y x)
                  rw [hz] at h1
                  have h2 : j * (M * M) ≤ 20 * (8 * 8) := Nat.mul_le_mul (by omega) (Nat.mul_le_mul (by omega) (by omega))
                  have h3 : y * M ≤ 8 * 8 := Nat.mul_le_mul (by omega) (by omega)
                  omega
                have hzw : IntKind.i64.wrap (z + 1) = z + 1 := IntWalk.i64_in _ (by omega)
                unfold bump at HBU
                rw [hz] at HBU
                have h1 : IntKind.i64.wrap ((r : Int) + (y : Int)) = ((r + y : Nat) : Int) := by rw [← Int.natCast_add]; exact IntWalk.i64_in _ (by omega)
                have h2 : IntKind.i64.wrap ((c : Int) + (x : Int)) = ((c + x : Nat) : Int) := by rw [← Int.natCast_add]; exact IntWalk.i64_in _ (by omega)
                have h3 : ((r + y : Nat) : Int) % (N : Int) = (((r + y) % N : Nat) : Int) := (Int.natCast_emod _ _).symm
                have h4 : ((c + x : Nat) : Int) % (N : Int) = (((c + x) % N : Nat) : Int) := (Int.natCast_emod _ _).symm
                have h5 : IntKind.i64.wrap ((N : Int) * (((r + y) % N : Nat) : Int)) = ((N * ((r + y) % N) : Nat) : Int) := by
                  rw [← Int.natCast_mul]
                  exact IntWalk.i64_in _ (by
                    have := Nat.mod_lt (r + y) hN1
                    have : N * ((r + y) % N) ≤ 8 * 8 := Nat.mul_le_mul hN8 (by omega)
                    omega)
                have h6 : IntKind.i64.wrap (((N * ((r + y) % N) : Nat) : Int) + (((c + x) % N : Nat) : Int)) = ((cellAt N r c y x : Nat) : Int) := by
                  rw [← Int.natCast_add]
                  exact IntWalk.i64_in _ (by show -9223372036854775808 ≤ ((cellAt N r c y x : Nat) : Int) ∧ ((cellAt N r c y x : Nat) : Int) ≤ 9223372036854775807; omega)
                have hN0 : (N : Int) ≠ 0 := by omega
                have hN0' : N ≠ 0 := by omega
                have t3 := h3
                rw [← remN] at t3
                have t4 := h4
                rw [← remN] at t4
                have OX' : Own w.heap.size (.slice (some ⟨w.heap.size, 0, none⟩) (covIn N r c y G x).length K2) (covIn N r c y G x) wr := by rw [HLX.out]; exact OX.out
                have f := OX'.free (cellAt N r c y x)
                have c2 := OX'.cell (cellAt N r c y x) (by rw [HLX.out]; exact hlt2)
                rw [hz] at c2
                have O5 : Hid (Own w.heap.size (.slice (some ⟨w.heap.size, 0, none⟩) K2 K2) (covIn N r c y G (x + 1)) (wr.setCell ⟨w.heap.size, cellAt N r c y x, none⟩ (.int .i64 (z + 1)))) := Lib.hid (by
                  have h := OX'.stored (cellAt N r c y x) (z + 1)
                  rw [HBU.out, HLX.out] at h
                  exact h)
                have B5 : Hid (Below w.heap.size w (wr.setCell ⟨w.heap.size, cellAt N r c y x, none⟩ (.int .i64 (z + 1)))) := Lib.hid (BX.out.setCell (p := ⟨w.heap.size, cellAt N r c y x, none⟩) (Nat.le_refl _) _)
                clear OX' HBU HLX hz OX
                generalize cellAt N r c y x = i at *
                generalize (r + y) % N = q1 at *
                generalize (c + x) % N = q2 at *
                generalize r + y = p1 at *
                generalize c + x = p2 at *
                generalize N * q1 = u at *
                have hbw : b ≠ w.heap.size := by have := HB.out; omega
                have hi0 : (0 : Int) ≤ (i : Int) := by omega
                have hi1 : (i : Int) < (K2 : Int) := by omega
                have hi2 : decide ((0 : Int) ≤ (i : Int)) = true := by simp
                have hi3 : decide ((i : Int) < (K2 : Int)) = true := by simp; omega
                have d0 : (wr.setCell ⟨w.heap.size, i, none⟩ (.int .i64 (z + 1))).drew.cell? ⟨b, off + j * 2, none⟩ = some (.int .i64 r) := by
                  rw [World.cell?_drew, World.cell?_setCell_other _ _ _ _ (by intro h; injection h with h; exact hbw h.symm)]; exact c0
                have d1 : (wr.setCell ⟨w.heap.size, i, none⟩ (.int .i64 (z + 1))).drew.cell? ⟨b, off + j * 2 + 1, none⟩ = some (.int .i64 c) := by
                  rw [World.cell?_drew, World.cell?_setCell_other _ _ _ _ (by intro h; injection h with h; exact hbw h.symm)]; exact c1
                go_wp2_with fail
                refine wp_region_noPanic ?_
                have hjk : (j : Int) < (k : Int) := by omega
                refine wp_region_held_drew (S := fun w' => w'.cell? ⟨b, off + j * 2, none⟩ = some (.int .i64 r) ∧ w'.cell? ⟨b, off + j * 2 + 1, none⟩ = some (.int .i64 c)) (by kernel_rfl) ⟨c0, c1⟩ (fun hHeld => ?_)
                refine wpAnyH_take (i := 0) (v := .slice (some ⟨w.heap.size, 0, none⟩) K2 K2) rfl (by kernel_rfl) (by kernel_rfl) (by kernel_rfl) (fun _ _ _ h => h) (Or.inl ⟨by rfl, fun w' hSw => by obtain ⟨g0, g1⟩ := hSw; go_simp⟩) hHeld ?_
                simp only [Act.put]
                refine wpAnyH_take (i := 1) (v := .int .i64 N) rfl (by kernel_rfl) (by kernel_rfl) (by kernel_rfl) (fun _ _ _ h => h) (Or.inl ⟨by rfl, fun w' hSw => by obtain ⟨g0, g1⟩ := hSw; go_simp⟩) hHeld ?_
                simp only [Act.put]
                refine wpAnyH_take (i := 2) (v := .slice (some ⟨b, off, none⟩) k cap) rfl (by kernel_rfl) (by kernel_rfl) (by kernel_rfl) (fun _ _ _ h => h) (Or.inl ⟨by rfl, fun w' hSw => by obtain ⟨g0, g1⟩ := hSw; go_simp⟩) hHeld ?_
                simp only [Act.put]
                refine wpAnyH_take (i := 3) (v := .int .i64 j) rfl (by kernel_rfl) (by kernel_rfl) (by kernel_rfl) (fun _ _ _ h => h) (Or.inl ⟨by rfl, fun w' hSw => by obtain ⟨g0, g1⟩ := hSw; go_simp⟩) hHeld ?_
                simp only [Act.put]
                refine wpAnyH_take (i := 4) (v := .pointer (some ⟨b, off + j * 2, none⟩)) rfl (by kernel_rfl) (by kernel_rfl) (by kernel_rfl) (fun _ _ _ h => h) (Or.inl ⟨by rfl, fun w' hSw => by obtain ⟨g0, g1⟩ := hSw; go_simp⟩) hHeld ?_
                simp only [Act.put]
                refine wpAnyH_take (i := 5) (v := .pointer (some ⟨b, off + j * 2, none⟩)) rfl (by kernel_rfl) (by kernel_rfl) (by kernel_rfl) (fun _ _ _ h => h) (Or.inl ⟨by rfl, fun w' hSw => by obtain ⟨g0, g1⟩ := hSw; go_simp⟩) hHeld ?_
                simp only [Act.put]
                refine wpAnyH_take (i := 6) (v := .int .i64 r) rfl (by kernel_rfl) (by kernel_rfl) (by kernel_rfl) (fun _ _ _ h => h) (Or.inl ⟨by rfl, fun w' hSw => by obtain ⟨g0, g1⟩ := hSw; go_simp⟩) hHeld ?_
                simp only [Act.put]
                refine wpAnyH_take (i := 7) (v := .int .i64 y) rfl (by kernel_rfl) (by kernel_rfl) (by kernel_rfl) (fun _ _ _ h => h) (Or.inl ⟨by rfl, fun w' hSw => by obtain ⟨g0, g1⟩ := hSw; go_simp⟩) hHeld ?_
                simp only [Act.put]
                refine wpAnyH_take (i := 8) (v := .int .i64 p1) rfl (by kernel_rfl) (by kernel_rfl) (by kernel_rfl) (fun _ _ _ h => h) (Or.inl ⟨by rfl, fun w' hSw => by obtain ⟨g0, g1⟩ := hSw; go_simp⟩) hHeld ?_
                simp only [Act.put]
                refine wpAnyH_take (i := 9) (v := .int .i64 N) rfl (by kernel_rfl) (by kernel_rfl) (by kernel_rfl) (fun _ _ _ h => h) (Or.inl ⟨by rfl, fun w' hSw => by obtain ⟨g0, g1⟩ := hSw; go_simp⟩) hHeld ?_
                simp only [Act.put]
                refine wpAnyH_take (i := 10) (v := .int .i64 q1) rfl (by kernel_rfl) (by kernel_rfl) (by kernel_rfl) (fun _ _ _ h => h) (Or.inl ⟨by rfl, fun w' hSw => by obtain ⟨g0, g1⟩ := hSw; go_simp⟩) hHeld ?_
                simp only [Act.put]
                refine wpAnyH_take (i := 11) (v := .int .i64 u) rfl (by kernel_rfl) (by kernel_rfl) (by kernel_rfl) (fun _ _ _ h => h) (Or.inl ⟨by rfl, fun w' hSw => by obtain ⟨g0, g1⟩ := hSw; go_simp⟩) hHeld ?_
                simp only [Act.put]
                refine wpAnyH_take (i := 12) (v := .slice (some ⟨b, off, none⟩) k cap) rfl (by kernel_rfl) (by kernel_rfl) (by kernel_rfl) (fun _ _ _ h => h) (Or.inl ⟨by rfl, fun w' hSw => by obtain ⟨g0, g1⟩ := hSw; go_simp⟩) hHeld ?_
                simp only [Act.put]
                refine wpAnyH_take (i := 13) (v := .int .i64 j) rfl (by kernel_rfl) (by kernel_rfl) (by kernel_rfl) (fun _ _ _ h => h) (Or.inl ⟨by rfl, fun w' hSw => by obtain ⟨g0, g1⟩ := hSw; go_simp⟩) hHeld ?_
                simp only [Act.put]
                refine wpAnyH_take (i := 14) (v := .pointer (some ⟨b, off + j * 2, none⟩)) rfl (by kernel_rfl) (by kernel_rfl) (by kernel_rfl) (fun _ _ _ h => h) (Or.inl ⟨by rfl, fun w' hSw => by obtain ⟨g0, g1⟩ := hSw; go_simp⟩) hHeld ?_
                simp only [Act.put]
                refine wpAnyH_take (i := 15) (v := .pointer (some ⟨b, off + j * 2 + 1, none⟩)) rfl (by kernel_rfl) (by kernel_rfl) (by kernel_rfl) (fun _ _ _ h => h) (Or.inl ⟨by rfl, fun w' hSw => by obtain ⟨g0, g1⟩ := hSw; go_simp⟩) hHeld ?_
                simp only [Act.put]
                refine wpAnyH_take (i := 16) (v := .int .i64 c) rfl (by kernel_rfl) (by kernel_rfl) (by kernel_rfl) (fun _ _ _ h => h) (Or.inl ⟨by rfl, fun w' hSw => by obtain ⟨g0, g1⟩ := hSw; go_simp⟩) hHeld ?_
                simp only [Act.put]
                refine wpAnyH_take (i := 17) (v := .int .i64 x) rfl (by kernel_rfl) (by kernel_rfl) (by kernel_rfl) (fun _ _ _ h => h) (Or.inl ⟨by rfl, fun w' hSw => by obtain ⟨g0, g1⟩ := hSw; go_simp⟩) hHeld ?_
                simp only [Act.put]
                refine wpAnyH_take (i := 18) (v := .int .i64 p2) rfl (by kernel_rfl) (by kernel_rfl) (by kernel_rfl) (fun _ _ _ h => h) (Or.inl ⟨by rfl, fun w' hSw => by obtain ⟨g0, g1⟩ := hSw; go_simp⟩) hHeld ?_
                simp only [Act.put]
                refine wpAnyH_take (i := 19) (v := .int .i64 N) rfl (by kernel_rfl) (by kernel_rfl) (by kernel_rfl) (fun _ _ _ h => h) (Or.inl ⟨by rfl, fun w' hSw => by obtain ⟨g0, g1⟩ := hSw; go_simp⟩) hHeld ?_
                simp only [Act.put]
                refine wpAnyH_take (i := 20) (v := .int .i64 q2) rfl (by kernel_rfl) (by kernel_rfl) (by kernel_rfl) (fun _ _ _ h => h) (Or.inl ⟨by rfl, fun w' hSw => by obtain ⟨g0, g1⟩ := hSw; go_simp⟩) hHeld ?_
                simp only [Act.put]
                refine wpAnyH_take (i := 21) (v := .int .i64 i) rfl (by kernel_rfl) (by kernel_rfl) (by kernel_rfl) (fun _ _ _ h => h) (Or.inl ⟨by rfl, fun w' hSw => by obtain ⟨g0, g1⟩ := hSw; go_simp⟩) hHeld ?_
                simp only [Act.put]
                refine wpAnyH_take (i := 22) (v := .pointer (some ⟨w.heap.size, i, none⟩)) rfl (by kernel_rfl) (by kernel_rfl) (by kernel_rfl) (fun _ _ _ h => h) (Or.inl ⟨by rfl, fun w' hSw => by obtain ⟨g0, g1⟩ := hSw; go_simp⟩) hHeld ?_
                simp only [Act.put]
                refine wpAnyH_ready (rs := [23]) (by kernel_rfl) (by simp) ?_
                refine AllReadyH.cons (o := _) rfl (fun K hK => ?_) AllReadyH.nil
                rw [if_pos (by rfl)]
                go_simp
                refine hK.out _ _ hHeld (fun _ => ?_)
                clear hK K
                refine wpAnyH_take (i := 24) (v := .int .i64 (z + 1)) rfl (by kernel_rfl) (by kernel_rfl) (by kernel_rfl) (fun _ _ _ h => h) (Or.inl ⟨by rfl, fun w' hSw => by go_simp⟩) hHeld ?_
                simp only [Act.put]
                refine wpAnyH_take (i := 25) (v := .pointer (some ⟨w.heap.size, i, none⟩)) rfl (by kernel_rfl) (by kernel_rfl) (by kernel_rfl) (fun _ _ _ h => h) (Or.inl ⟨by rfl, fun w' hSw => by go_simp⟩) hHeld ?_
                simp only [Act.put]
                refine wpAnyH_ready (rs := [26]) (by kernel_rfl) (by simp) ?_
                refine AllReadyH.cons (o := _) rfl (fun K hK => ?_) AllReadyH.nil
                rw [if_pos (by rfl)]
                go_simp
                refine hK.out _ _ ⟨d0, d1⟩ (fun _ => ?_)
                clear hK K
                refine wpAnyH_done (by kernel_rfl) ?_ _
                refine NoPanic.normal ?_
                have O6 := Lib.hid (O5.out.drew)
                have B6 := Lib.hid (B5.out.drew)
                clear O5 B5 d0 d1 f c0 c1 c2
                go_wp2_with fail
                exact ⟨⟨x + 1, by omega, by go_num, O6, B6⟩, by simp [intOf]; omega⟩
              · obtain rfl : x = M := by omega
                go_wp2_with fail
                exact ⟨⟨y + 1, by omega, by go_num, Lib.hid (by rw [← HF2.out]; exact OX.out), BX⟩, by simp [intOf]; omega⟩
          · obtain rfl : y = M := by omega
            go_wp2_with fail
            exact ⟨⟨j + 1, by omega, by go_num, HA1, Lib.hid (by rw [← HF.out]; exact OY.out), BY⟩, by simp [intOf]; omega⟩
    · obtain rfl : j = k := by omega
      have HR : Hid (covR (N : Int) (M : Int) j F = covAll N M F j ∧ covC (N : Int) (M : Int) j F = 0) := Lib.hid (by
        unfold covR covC
        rw [HPat.out, HA.out, Int.toNat_natCast, Int.toNat_natCast]
        exact ⟨rfl, rfl⟩)
      go_wp2_with fail
      go_ret2
      rw [HR.out.1, HR.out.2]
      exact ⟨.slice (some ⟨w.heap.size, 0, none⟩) K2 K2, rfl, OJ.out, BJ.out⟩

theorem covOut {n m : Int} {k : Nat} {F : List Int} (h : arePat n m k F = false) : covR n m k F = [] ∧ covC n m k F = 2 := by
  unfold covR covC
  rw [h]
  exact ⟨rfl, rfl⟩

set_option maxRecDepth 100000 in
set_option maxHeartbeats 1600000 in
theorem specCov (n m : Int) (k : Nat) (F : List Int) : Covs 45 n m k F (covR n m k F) (covC n m k F) := by
  cases hs1 : side n
  · obtain ⟨k1, k2⟩ := covOut (n := n) (m := m) (k := k) (F := F) (by unfold arePat; rw [hs1]; rfl)
    rw [k1, k2]
    intro hk v w hO
    obtain ⟨a, cap, rfl, _⟩ := hO.came
    have HS1 := Lib.hid hs1
    clear hs1 k1 k2 hO
    go_enter Try.func45, Try.ntmps45
    go_wp2_with fail
    refine (l01Side_any n _).mono ?_
    rw [HS1.out]
    rintro e w1 ⟨rfl, rfl⟩
    go_wp2_with fail
    go_ret2
    exact ⟨.slice none 0 0, rfl, Own.zero _ _, Below.refl _ _⟩
  · cases hs2 : side m
    · obtain ⟨k1, k2⟩ := covOut (n := n) (m := m) (k := k) (F := F) (by unfold arePat; rw [hs1, hs2]; rfl)
      rw [k1, k2]
      intro hk v w hO
      obtain ⟨a, cap, rfl, _⟩ := hO.came
      have HS1 := Lib.hid hs1
      have HS2 := Lib.hid hs2
      clear hs1 hs2 k1 k2 hO
      go_enter Try.func45, Try.ntmps45
      go_wp2_with fail
      refine (l01Side_any n _).mono ?_
      rw [HS1.out]
      rintro e w1 ⟨rfl, rfl⟩
      go_wp2_with fail
      refine (l01Side_any m _).mono ?_
      rw [HS2.out]
      rintro e w1 ⟨rfl, rfl⟩
      go_wp2_with fail
      go_ret2
      exact ⟨.slice none 0 0, rfl, Own.zero _ _, Below.refl _ _⟩
    · by_cases hmn : m ≤ n
      · by_cases hk20 : k ≤ 20
        · exact specCov_main n m k F hs1 hs2 hmn hk20
        · obtain ⟨k1, k2⟩ := covOut (n := n) (m := m) (k := k) (F := F) (by unfold arePat; rw [hs1, hs2, decide_eq_true hmn, decide_eq_false hk20]; rfl)
          rw [k1, k2]
          intro hk v w hO
          obtain ⟨a, cap, rfl, _⟩ := hO.came
          have HS1 := Lib.hid hs1
          have HS2 := Lib.hid hs2
          have hg1 : decide (m > n) = false := by simp; omega
          have hg2 : decide ((k : Int) > 20) = true := by simp; omega
          clear hs1 hs2 k1 k2 hO
          go_enter Try.func45, Try.ntmps45
          go_wp2_with fail
          refine (l01Side_any n _).mono ?_
          rw [HS1.out]
          rintro e w1 ⟨rfl, rfl⟩
          go_wp2_with fail
          refine (l01Side_any m _).mono ?_
          rw [HS2.out]
          rintro e w1 ⟨rfl, rfl⟩
          go_wp2_with fail
          go_ret2
          exact ⟨.slice none 0 0, rfl, Own.zero _ _, Below.refl _ _⟩
      · obtain ⟨k1, k2⟩ := covOut (n := n) (m := m) (k := k) (F := F) (by unfold arePat; rw [hs1, hs2, decide_eq_false hmn]; rfl)
        rw [k1, k2]
        intro hk v w hO
        obtain ⟨a, cap, rfl, _⟩ := hO.came
        have HS1 := Lib.hid hs1
        have HS2 := Lib.hid hs2
        have hg1 : decide (m > n) = true := by simp; omega
        clear hs1 hs2 k1 k2 hO
        go_enter Try.func45, Try.ntmps45
        go_wp2_with fail
        refine (l01Side_any n _).mono ?_
        rw [HS1.out]
        rintro e w1 ⟨rfl, rfl⟩
        go_wp2_with fail
        refine (l01Side_any m _).mono ?_
        rw [HS2.out]
        rintro e w1 ⟨rfl, rfl⟩
        go_wp2_with fail
        go_ret2
        exact ⟨.slice none 0 0, rfl, Own.zero _ _, Below.refl _ _⟩

end Go.Proofs.Ytjmfffgddmnkmab
