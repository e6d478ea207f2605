/- SlopesOf: what the program answers, and that it is the model's answer. Condition: a list that a law lets in. -/
import Derived.Test.YtjmfffgddmnkmacSla
namespace Go.Proofs.Ytjmfffgddmnkmac
open Go Go.RowKit

set_option maxRecDepth 100000 in
set_option maxHeartbeats 800000 in
theorem implSl_no (n : Int) (L : List Int) (h0 : isMap n L = false) : Lists 21 n L [] 1 := by
  intro hn v w hO
  obtain ⟨a, cap, rfl, hC⟩ := hO.came
  have HI := Lib.hid (implIs_any n a L.length cap L w hC hn)
  rw [h0] at HI
  clear hC hO h0
  go_enter Try.func21, Try.ntmps21
  go_wp2_with fail
  refine HI.out.mono ?_
  rintro e w1 ⟨rfl, rfl⟩
  go_wp2_with fail
  go_ret2
  exact ⟨_, rfl, Own.zero _ _, Below.refl _ _⟩

set_option maxRecDepth 100000 in
set_option maxHeartbeats 6400000 in
theorem implSl_yes (n : Int) (L : List Int) (h0 : isMap n L = true) : Lists 21 n L [mostOf (rowsD n.toNat L L.length), mostOf (colsD n.toNat L L.length)] 0 := by
  intro hn v w hO
  obtain ⟨m, rfl, hm1, hm8, hlen⟩ := isMap_nat h0
  obtain ⟨b, cap, rfl, _, hb⟩ := hO.form (isMap_pos h0)
  obtain ⟨a', cap', e', hC⟩ := hO.came
  cases e'
  have HI := Lib.hid (implIs_any m (some ⟨b, 0, none⟩) L.length cap L w hC hn)
  rw [h0] at HI
  have HCell : Hid (∀ i, i < L.length → w.cell? ⟨b, i, none⟩ = some (.int .i64 (L.getD i 0))) := Lib.hid (fun i hi => hO.cell i hi)
  have HB : Hid (b < w.heap.size) := Lib.hid hb
  have HA := Lib.hid (fun i hi => isMap_all h0 i hi)
  have HN64 := Lib.hid (isMap_le h0)
  rw [show (m : Int).toNat = m from by simp]
  have hw0 : IntKind.i64.wrap ((m : Int) * (m : Int)) = (L.length : Int) := by
    rw [← Int.natCast_mul, ← hlen]; exact IntWalk.i64_in _ (by have := isMap_le h0; omega)
  have HRi := Lib.hid (fun k => right_lt m k L.length hlen.symm)
  have HBe := Lib.hid (fun k => below_lt m k L.length hlen.symm)
  have HMR : Hid (∀ B v w, Own B v (rowsD m L L.length) w → Calls Try.prog 60 #[v] w fun e w' => e = .returned (.int .i64 (mostOf (rowsD m L L.length))) ∧ w.grownBy w' v.ownBlock) := Lib.hid (fun B v w h => implMost_any B v _ w h (Nat.le_trans (rowsD_len _ _ _) (isMap_le h0)))
  have HMC : Hid (∀ B v w, Own B v (colsD m L L.length) w → Calls Try.prog 60 #[v] w fun e w' => e = .returned (.int .i64 (mostOf (colsD m L L.length))) ∧ w.grownBy w' v.ownBlock) := Lib.hid (fun B v w h => implMost_any B v _ w h (Nat.le_trans (colsD_len _ _ _) (isMap_le h0)))
  clear hC hO h0 hb hlen hn
  generalize mostOf (rowsD m L L.length) = mr at *
  generalize mostOf (colsD m L L.length) = mc at *
  generalize hNN : L.length = N at *
  have hN64 : N ≤ 64 := HN64.out
  clear hNN
  go_enter Try.func21, Try.ntmps21
  go_wp2_with fail
  refine HI.out.mono ?_
  rintro e w1 ⟨rfl, rfl⟩
  go_wp2_with fail
  go_loopw [6, 7, 17] (fun v1 v2 i wr => ∃ k : Nat, k ≤ N ∧ i = .int .i64 k ∧ Hid (Own w.heap.size v1 (rowsD m L k) wr) ∧ Hid (Own w.heap.size v2 (colsD m L k) wr) ∧ Hid (Apart v1 v2) ∧ Hid (Below w.heap.size w wr)) (fun _ _ i _ => N - (intOf i).toNat)
  case atStart => exact ⟨0, by omega, rfl, Lib.hid (Own.zero _ _), Lib.hid (Own.zero _ _), Lib.hid (fun k h => by cases h), Lib.hid (Below.refl _ _)⟩
  case round =>
    obtain ⟨k, hk, rfl, O1, O2, AP, B⟩ := hrel
    by_cases hlt : k < N
    · have hdk : decide ((k : Int) < (N : Int)) = true := by simp; omega
      have c0 := (B.out.cell (p := ⟨b, k, none⟩) HB.out).trans (HCell.out k hlt)
      have a0 := HA.out k hlt
      have HZ1 : Hid ((rowsD m L k).length ≤ 1048576) := Lib.hid (Nat.le_trans (rowsD_len _ _ _) (by omega))
      have HZ2 : Hid ((colsD m L k).length ≤ 1048576) := Lib.hid (Nat.le_trans (colsD_len _ _ _) (by omega))
      have hk0 : (0 : Int) ≤ (k : Int) := by omega
      have hk1 : (k : Int) < (N : Int) := by omega
      obtain ⟨qq, hqq⟩ : ∃ qq, k / m = qq := ⟨_, rfl⟩
      have hqk : qq ≤ k := by rw [← hqq]; exact Nat.div_le_self _ _
      have htd : (k : Int).tdiv (m : Int) = (qq : Int) := by rw [← hqq, Int.ofNat_tdiv]
      have hqw : IntKind.i64.wrap (qq : Int) = (qq : Int) := IntWalk.i64_in _ (by omega)
      have hqd : (k : Int) / (m : Int) = (qq : Int) := by rw [← hqq, Int.natCast_ediv]
      by_cases hr : k % m < m - 1
      · by_cases hc : qq < m - 1
        · have hx1 := HRi.out k hr hlt
          have HR1 := Lib.hid (rowsD_yes m L k hr)
          have dr : decide ((k : Int) % (m : Int) < (m : Int) - 1) = true := by rw [← Int.natCast_emod]; simp; omega
          have c1 := (B.out.cell (p := ⟨b, k + 1, none⟩) HB.out).trans (HCell.out (k + 1) hx1)
          have a1 := HA.out (k + 1) hx1
          have hj1 : IntKind.i64.wrap ((k : Int) + 1) = ((k + 1 : Nat) : Int) := by rw [Int.natCast_add]; exact IntWalk.i64_in _ (by omega)
          have hj2 : ((k + 1 : Nat) : Int) < (N : Int) := by omega
          have hj3 : (0 : Int) ≤ ((k + 1 : Nat) : Int) := by omega
          have hx2 := HBe.out k (by omega)
          have HR2 := Lib.hid (colsD_yes m L k (by omega))
          have dc : decide ((qq : Int) < (m : Int) - 1) = true := by simp; omega
          have c2 := (B.out.cell (p := ⟨b, k + m, none⟩) HB.out).trans (HCell.out (k + m) hx2)
          have a2 := HA.out (k + m) hx2
          have hl1 : IntKind.i64.wrap ((k : Int) + (m : Int)) = ((k + m : Nat) : Int) := by rw [Int.natCast_add]; exact IntWalk.i64_in _ (by omega)
          have hl2 : ((k + m : Nat) : Int) < (N : Int) := by omega
          have hl3 : (0 : Int) ≤ ((k + m : Nat) : Int) := by omega
          have hs1 : IntKind.i64.wrap (L.getD (k + 1) 0 - L.getD k 0) = L.getD (k + 1) 0 - L.getD k 0 := IntWalk.i64_in _ (by omega)
          have hs2 : IntKind.i64.wrap (L.getD (k + m) 0 - L.getD k 0) = L.getD (k + m) 0 - L.getD k 0 := IntWalk.i64_in _ (by omega)
          have HX2 : Hid (w.cell? ⟨b, k + m, none⟩ = some (.int .i64 (L.getD (k + m) 0))) := Lib.hid (HCell.out (k + m) hx2)
          have HX0 : Hid (w.cell? ⟨b, k, none⟩ = some (.int .i64 (L.getD k 0))) := Lib.hid (HCell.out k hlt)
          generalize L.getD k 0 = x0 at *
          generalize L.getD (k + 1) 0 = x1 at *
          generalize rowsD m L k = R at *
          generalize L.getD (k + m) 0 = x2 at *
          generalize colsD m L k = C at *
          obtain ⟨k1, hk1e⟩ : ∃ k1, k + 1 = k1 := ⟨_, rfl⟩
          rw [hk1e] at hj1 hj2 hj3 c1
          have HK1 := Lib.hid hk1e
          clear hk1e hqq hx1 hx2
          generalize hk2e : k + m = k2 at *
          clear hk2e
          clear c2
          go_wp2_with (at_builtin; refine wpList_push2 rfl (.tmp 29) (.tmp 37) rfl w.heap.size _ R (x1 - x0) rfl rfl O1.out HZ1.out B.out.size ?_)
          intro v1' w1 P1 B1 A1
          have P2 := A1 _ _ O2.out AP.out.symm
          have B1b := Lib.hid (B.out.trans B1)
          have O1b := Lib.hid (P1.one HR1.out)
          have O2b := Lib.hid P2.1
          have APb := Lib.hid P2.2.symm
          clear P1 P2 A1 O1 O2 AP B1
          have c0b := (B1b.out.cell (p := ⟨b, k, none⟩) HB.out).trans HX0.out
          have c2 := (B1b.out.cell (p := ⟨b, k2, none⟩) HB.out).trans HX2.out
          clear c0 c1 B
          go_wp2_with (at_builtin; refine wpList_push2 rfl (.tmp 45) (.tmp 54) rfl w.heap.size _ C (x2 - x0) rfl rfl O2b.out HZ2.out B1b.out.size ?_)
          intro v2' w2 P1 B2 A1
          have P2 := A1 _ _ O1b.out APb.out
          have B2b := Lib.hid (B1b.out.trans B2)
          have O2c := Lib.hid (P1.one HR2.out)
          have O1c := Lib.hid P2.1
          have APc := Lib.hid P2.2
          clear P1 P2 A1 B2
          go_wp2
          have e1 := HK1.out
          subst e1
          exact ⟨⟨k + 1, by omega, by first | rfl | go_num, O1c, O2c, APc, B2b⟩, by simp [intOf]; omega⟩
        · have hx1 := HRi.out k hr hlt
          have HR1 := Lib.hid (rowsD_yes m L k hr)
          have dr : decide ((k : Int) % (m : Int) < (m : Int) - 1) = true := by rw [← Int.natCast_emod]; simp; omega
          have c1 := (B.out.cell (p := ⟨b, k + 1, none⟩) HB.out).trans (HCell.out (k + 1) hx1)
          have a1 := HA.out (k + 1) hx1
          have hj1 : IntKind.i64.wrap ((k : Int) + 1) = ((k + 1 : Nat) : Int) := by rw [Int.natCast_add]; exact IntWalk.i64_in _ (by omega)
          have hj2 : ((k + 1 : Nat) : Int) < (N : Int) := by omega
          have hj3 : (0 : Int) ≤ ((k + 1 : Nat) : Int) := by omega
          have HR2 := Lib.hid (colsD_no m L k (by omega))
          have dc : decide ((qq : Int) < (m : Int) - 1) = false := by simp; omega
          have hs1 : IntKind.i64.wrap (L.getD (k + 1) 0 - L.getD k 0) = L.getD (k + 1) 0 - L.getD k 0 := IntWalk.i64_in _ (by omega)
          generalize L.getD k 0 = x0 at *
          generalize L.getD (k + 1) 0 = x1 at *
          generalize rowsD m L k = R at *
          obtain ⟨k1, hk1e⟩ : ∃ k1, k + 1 = k1 := ⟨_, rfl⟩
          rw [hk1e] at hj1 hj2 hj3 c1
          have HK1 := Lib.hid hk1e
          clear hk1e hqq hx1
          go_wp2_with (at_builtin; refine wpList_push2 rfl (.tmp 29) (.tmp 37) rfl w.heap.size _ R (x1 - x0) rfl rfl O1.out HZ1.out B.out.size ?_)
          intro v1' w1 P1 B1 A1
          have P2 := A1 _ _ O2.out AP.out.symm
          have B1b := Lib.hid (B.out.trans B1)
          have O1b := Lib.hid (P1.one HR1.out)
          have O2b := Lib.hid P2.1
          have APb := Lib.hid P2.2.symm
          clear P1 P2 A1 O1 O2 AP B1
          have O2c := Lib.hid (O2b.out.one HR2.out)
          go_wp2
          have e1 := HK1.out
          subst e1
          exact ⟨⟨k + 1, by omega, by first | rfl | go_num, O1b, O2c, APb, B1b⟩, by simp [intOf]; omega⟩
      · have HR1 := Lib.hid (rowsD_no m L k hr)
        have dr : decide ((k : Int) % (m : Int) < (m : Int) - 1) = false := by rw [← Int.natCast_emod]; simp; omega
        by_cases hc : qq < m - 1
        · have hx2 := HBe.out k (by omega)
          have HR2 := Lib.hid (colsD_yes m L k (by omega))
          have dc : decide ((qq : Int) < (m : Int) - 1) = true := by simp; omega
          have c2 := (B.out.cell (p := ⟨b, k + m, none⟩) HB.out).trans (HCell.out (k + m) hx2)
          have a2 := HA.out (k + m) hx2
          have hl1 : IntKind.i64.wrap ((k : Int) + (m : Int)) = ((k + m : Nat) : Int) := by rw [Int.natCast_add]; exact IntWalk.i64_in _ (by omega)
          have hl2 : ((k + m : Nat) : Int) < (N : Int) := by omega
          have hl3 : (0 : Int) ≤ ((k + m : Nat) : Int) := by omega
          have hs2 : IntKind.i64.wrap (L.getD (k + m) 0 - L.getD k 0) = L.getD (k + m) 0 - L.getD k 0 := IntWalk.i64_in _ (by omega)
          have O1z := Lib.hid (O1.out.one HR1.out)
          generalize L.getD k 0 = x0 at *
          generalize L.getD (k + m) 0 = x2 at *
          generalize colsD m L k = C at *
          clear hqq hx2
          generalize hk2e : k + m = k2 at *
          clear hk2e
          go_wp2_with (at_builtin; refine wpList_push2 rfl (.tmp 45) (.tmp 54) rfl w.heap.size _ C (x2 - x0) rfl rfl O2.out HZ2.out B.out.size ?_)
          intro v2' w2 P1 B2 A1
          have P2 := A1 _ _ O1z.out AP.out
          have B2b := Lib.hid (B.out.trans B2)
          have O2c := Lib.hid (P1.one HR2.out)
          have O1c := Lib.hid P2.1
          have APc := Lib.hid P2.2
          clear P1 P2 A1 B2
          go_wp2
          exact ⟨⟨k + 1, by omega, by first | rfl | go_num, O1c, O2c, APc, B2b⟩, by simp [intOf]; omega⟩
        · have HR2 := Lib.hid (colsD_no m L k (by omega))
          have dc : decide ((qq : Int) < (m : Int) - 1) = false := by simp; omega
          have O1z := Lib.hid (O1.out.one HR1.out)
          have O2z := Lib.hid (O2.out.one HR2.out)
          generalize L.getD k 0 = x0 at *
          clear hqq
          go_wp2
          exact ⟨⟨k + 1, by omega, by first | rfl | go_num, O1z, O2z, AP, B⟩, by simp [intOf]; omega⟩
    · obtain rfl : k = N := by omega
      go_wp2_with fail
      refine (HMR.out _ _ _ O1.out).mono ?_
      rintro e w1 ⟨rfl, b1⟩
      have B1 := Lib.hid (B.out.grown b1 B.out.size (fun j hj => (O1.out.rng j hj).1))
      have P2 : Hid (Own w.heap.size u7 (colsD m L k) w1) := Lib.hid (World.ownsRow.kept O2.out b1 (by
        cases hb : u7.ownBlock
        · exact .inl rfl
        · exact .inr fun e => AP.out _ e.symm hb))
      clear b1
      go_wp2_with fail
      refine (HMC.out _ _ _ P2.out).mono ?_
      rintro e w2 ⟨rfl, b2⟩
      have B2 := Lib.hid (B1.out.grown b2 B1.out.size (fun j hj => (P2.out.rng j hj).1))
      clear b2
      go_wp2_with fail
      go_ret2
      exact ⟨_, rfl, Own.two _ mr mc w2 B2.out.size, B2.out.alloc B2.out.size _⟩
theorem specSl (n : Int) (L : List Int) : Lists 22 n L (resSl n L) (codeM n L) := by
  unfold resSl codeM
  cases h : isMap n L
  · exact specSl_no n L h
  · exact specSl_yes n L h
theorem implSl (n : Int) (L : List Int) : Lists 21 n L (resSl n L) (codeM n L) := by
  unfold resSl codeM
  cases h : isMap n L
  · exact implSl_no n L h
  · exact implSl_yes n L h
end Go.Proofs.Ytjmfffgddmnkmac
