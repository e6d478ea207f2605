/- SlopesOf: what the model answers. Condition: a list that a law lets in. -/
import Derived.Test.YtjmfffgddmnkmacM20
import Derived.Test.YtjmfffgddmnkmacM11
import Derived.Test.YtjmfffgddmnkmacMv
import Derived.Deep.RegionHeld3
import Derived.Deep.DrawnRows
namespace Go.Proofs.Ytjmfffgddmnkmac
open Go Go.RowKit
attribute [local go_sem ↓] Go.wp_at_zero Go.wp_at_succ

/-- the answer that is asked for -/
noncomputable def resSl (n : Int) (L : List Int) : List Int := if isMap n L then [mostOf (rowsD n.toNat L L.length), mostOf (colsD n.toNat L L.length)] else []
theorem resSl_len (n : Int) (L : List Int) : (resSl n L).length ≤ 1048576 := by
  unfold resSl
  split
  · simp
  · exact Nat.zero_le _

theorem Own.two (B : Nat) (a b : Int) (w : World) (hB : B ≤ w.heap.size) : Own B (.slice (some ⟨w.heap.size, 0, none⟩) 2 2) [a, b] (w.alloc (.cells #[.int .i64 a, .int .i64 b] 2)) :=
  World.ownsRow_lit w #[.int .i64 a, .int .i64 b] 2 hB (by decide) rfl

theorem implMost_any (B : Nat) (v : Value) (L : List Int) (w : World) (hO : Own B v L w) (hn : L.length ≤ 64) :
    Calls Try.prog 60 #[v] w fun e w' => e = .returned (.int .i64 (mostOf L)) ∧ w.grownBy w' v.ownBlock := by
  rcases hO.kind with ⟨rfl, rfl⟩ | ⟨g, cap, rfl, _, _⟩
  · refine (implMost_nil w).mono ?_
    rintro e w' ⟨rfl, rfl⟩
    exact ⟨by rw [mostOf_eq (BestIn.zero [])], ⟨rfl, rfl, rfl, Nat.le_refl _, fun _ _ _ => rfl⟩⟩
  · exact implMost_row B g cap L w hO hn

theorem specMost_own (B : Nat) (v : Value) (L : List Int) (w : World) (hO : Own B v L w) (hn : L.length ≤ 64) :
    Calls Try.prog 62 #[v] w fun e w' => e = .returned (.int .i64 (mostOf L)) ∧ Below w.heap.size w w' := by
  obtain ⟨a, c, rfl, h⟩ := hO.came
  exact specMost_any a L.length c L w h hn

set_option maxRecDepth 100000 in
set_option maxHeartbeats 800000 in
theorem specSl_no (n : Int) (L : List Int) (h0 : isMap n L = false) : Lists 22 n L [] 1 := by
  intro hn v w hO
  obtain ⟨a, cap, rfl, hC⟩ := hO.came
  have HI := Lib.hid (specIs7_any n a L.length cap L w hC hn)
  rw [h0] at HI
  clear hC hO h0
  go_enter Try.func22, Try.ntmps22
  go_wp2_with fail
  refine HI.out.mono ?_
  rintro e w1 ⟨rfl, rfl⟩
  go_wp2_with fail
  go_ret2
  exact ⟨_, rfl, Own.zero _ _, Below.refl _ _⟩

set_option maxRecDepth 100000 in
set_option maxHeartbeats 6400000 in
theorem specSl_yes (n : Int) (L : List Int) (h0 : isMap n L = true) : Lists 22 n L [mostOf (rowsD n.toNat L L.length), mostOf (colsD n.toNat L L.length)] 0 := by
  intro hn v w hO
  obtain ⟨m, rfl, hm1, hm8, hlen⟩ := isMap_nat h0
  obtain ⟨b, cap, rfl, _, hb⟩ := hO.form (isMap_pos h0)
  obtain ⟨a', cap', e', hC⟩ := hO.came
  cases e'
  have HI := Lib.hid (specIs7_any m (some ⟨b, 0, none⟩) L.length cap L w hC hn)
  rw [h0] at HI
  have HCell : Hid (∀ i, i < L.length → w.cell? ⟨b, i, none⟩ = some (.int .i64 (L.getD i 0))) := Lib.hid (fun i hi => hO.cell i hi)
  have HB : Hid (b < w.heap.size) := Lib.hid hb
  have HA := Lib.hid (fun i hi => isMap_all h0 i hi)
  have HN64 := Lib.hid (isMap_le h0)
  rw [show (m : Int).toNat = m from by simp]
  have hw0 : IntKind.i64.wrap ((m : Int) * (m : Int)) = (L.length : Int) := by
    rw [← Int.natCast_mul, ← hlen]; exact IntWalk.i64_in _ (by have := isMap_le h0; omega)
  have HRi := Lib.hid (fun k => right_lt m k L.length hlen.symm)
  have HBe := Lib.hid (fun k => below_lt m k L.length hlen.symm)
  have HMR : Hid (∀ B v w, Own B v (rowsD m L L.length) w → Calls Try.prog 62 #[v] w fun e w' => e = .returned (.int .i64 (mostOf (rowsD m L L.length))) ∧ Below w.heap.size w w') := Lib.hid (fun B v w h => specMost_own B v _ w h (Nat.le_trans (rowsD_len _ _ _) (isMap_le h0)))
  have HMC : Hid (∀ B v w, Own B v (colsD m L L.length) w → Calls Try.prog 62 #[v] w fun e w' => e = .returned (.int .i64 (mostOf (colsD m L L.length))) ∧ Below w.heap.size w w') := Lib.hid (fun B v w h => specMost_own B v _ w h (Nat.le_trans (colsD_len _ _ _) (isMap_le h0)))
  clear hC hO h0 hb hlen hn
  generalize mostOf (rowsD m L L.length) = mr at *
  generalize mostOf (colsD m L L.length) = mc at *
  generalize hNN : L.length = N at *
  have hN64 : N ≤ 64 := HN64.out
  clear hNN
  go_enter Try.func22, Try.ntmps22
  go_wp2_with fail
  refine HI.out.mono ?_
  rintro e w1 ⟨rfl, rfl⟩
  go_wp2_with fail
  go_loopw [6, 7, 8] (fun v1 v2 i wr => ∃ k : Nat, k ≤ N ∧ i = .int .i64 k ∧ Hid (Own w.heap.size v1 (rowsD m L k) wr) ∧ Hid (Own w.heap.size v2 (colsD m L k) wr) ∧ Hid (Apart v1 v2) ∧ Hid (Below w.heap.size w wr)) (fun _ _ i _ => N - (intOf i).toNat)
  case atStart =>
    refine ⟨0, by omega, rfl, Lib.hid ((Own.empty _ _ (Nat.le_refl _)).alloc _), Lib.hid ?_, Lib.hid ?_, Lib.hid (((Below.refl _ _).alloc (Nat.le_refl _) _).alloc (by simp) _)⟩
    · have := Own.empty w.heap.size (w.alloc (.cells #[] 2)) (by simp)
      rw [World.size_alloc] at this
      exact this
    · intro k h1 h2
      simp only [Value.ownBlock, Option.some.injEq] at h1 h2
      omega
  case round =>
    obtain ⟨k, hk, rfl, O1, O2, AP, B⟩ := hrel
    by_cases hlt : k < N
    · have hdk : decide ((k : Int) < (N : Int)) = true := by simp; omega
      have c0 := (B.out.cell (p := ⟨b, k, none⟩) HB.out).trans (HCell.out k hlt)
      have a0 := HA.out k hlt
      have HZ1 : Hid ((rowsD m L k).length ≤ 1048576) := Lib.hid (Nat.le_trans (rowsD_len _ _ _) (by omega))
      have HZ2 : Hid ((colsD m L k).length ≤ 1048576) := Lib.hid (Nat.le_trans (colsD_len _ _ _) (by omega))
      have hk0 : (0 : Int) ≤ (k : Int) := by omega
      have hk1 : (k : Int) < (N : Int) := by omega
      obtain ⟨qq, hqq⟩ : ∃ qq, k / m = qq := ⟨_, rfl⟩
      have hqk : qq ≤ k := by rw [← hqq]; exact Nat.div_le_self _ _
      have htd : (k : Int).tdiv (m : Int) = (qq : Int) := by rw [← hqq, Int.ofNat_tdiv]
      have hqw : IntKind.i64.wrap (qq : Int) = (qq : Int) := IntWalk.i64_in _ (by omega)
      have hqd : (k : Int) / (m : Int) = (qq : Int) := by rw [← hqq, Int.natCast_ediv]
      by_cases hr : k % m < m - 1
      · by_cases hc : qq < m - 1
        · have hx1 := HRi.out k hr hlt
          have HR1 := Lib.hid (rowsD_yes m L k hr)
          have dr : decide ((k : Int) % (m : Int) < (m : Int) - 1) = true := by rw [← Int.natCast_emod]; simp; omega
          have c1 := (B.out.cell (p := ⟨b, k + 1, none⟩) HB.out).trans (HCell.out (k + 1) hx1)
          have a1 := HA.out (k + 1) hx1
          have hj1 : IntKind.i64.wrap ((k : Int) + 1) = ((k + 1 : Nat) : Int) := by rw [Int.natCast_add]; exact IntWalk.i64_in _ (by omega)
          have hj2 : ((k + 1 : Nat) : Int) < (N : Int) := by omega
          have hj3 : (0 : Int) ≤ ((k + 1 : Nat) : Int) := by omega
          have hx2 := HBe.out k (by omega)
          have HR2 := Lib.hid (colsD_yes m L k (by omega))
          have dc : decide ((qq : Int) < (m : Int) - 1) = true := by simp; omega
          have c2 := (B.out.cell (p := ⟨b, k + m, none⟩) HB.out).trans (HCell.out (k + m) hx2)
          have a2 := HA.out (k + m) hx2
          have hl1 : IntKind.i64.wrap ((k : Int) + (m : Int)) = ((k + m : Nat) : Int) := by rw [Int.natCast_add]; exact IntWalk.i64_in _ (by omega)
          have hl2 : ((k + m : Nat) : Int) < (N : Int) := by omega
          have hl3 : (0 : Int) ≤ ((k + m : Nat) : Int) := by omega
          have hs1 : IntKind.i64.wrap (L.getD (k + 1) 0 - L.getD k 0) = L.getD (k + 1) 0 - L.getD k 0 := IntWalk.i64_in _ (by omega)
          have hs2 : IntKind.i64.wrap (L.getD (k + m) 0 - L.getD k 0) = L.getD (k + m) 0 - L.getD k 0 := IntWalk.i64_in _ (by omega)
          have HX2 : Hid (w.cell? ⟨b, k + m, none⟩ = some (.int .i64 (L.getD (k + m) 0))) := Lib.hid (HCell.out (k + m) hx2)
          have HX0 : Hid (w.cell? ⟨b, k, none⟩ = some (.int .i64 (L.getD k 0))) := Lib.hid (HCell.out k hlt)
          generalize L.getD k 0 = x0 at *
          generalize L.getD (k + 1) 0 = x1 at *
          generalize rowsD m L k = R at *
          generalize L.getD (k + m) 0 = x2 at *
          generalize colsD m L k = C at *
          obtain ⟨k1, hk1e⟩ : ∃ k1, k + 1 = k1 := ⟨_, rfl⟩
          rw [hk1e] at hj1 hj2 hj3 c1
          have HK1 := Lib.hid hk1e
          clear hk1e hqq hx1 hx2
          generalize hk2e : k + m = k2 at *
          clear hk2e
          have HBS1 : Hid (w.heap.size ≤ (wr.alloc (.cells #[.int .i64 (x1 - x0)] 2)).drew.heap.size) := Lib.hid (by have := B.out.size; simp; omega)
          have HYC1 : Hid ((wr.alloc (.cells #[.int .i64 (x1 - x0)] 2)).drew.cell? ⟨wr.heap.size, 0, none⟩ = some (.int .i64 (x1 - x0))) := Lib.hid (World.cell?_alloc_at _ _ _ _ rfl)
          have HC1 : Hid (∀ W, Below w.heap.size (wr.alloc (.cells #[.int .i64 (x1 - x0)] 2)).drew W → W.cell? ⟨b, k1, none⟩ = some (.int .i64 x1) ∧ W.cell? ⟨b, k, none⟩ = some (.int .i64 x0)) := Lib.hid (fun W bl => by
            have hbw : b < wr.heap.size := by have := HB.out; have := B.out.size; omega
            refine ⟨?_, ?_⟩
            · rw [bl.cell (p := ⟨b, k1, none⟩) HB.out]
              exact (World.cell?_alloc_past _ _ _ hbw).trans c1
            · rw [bl.cell (p := ⟨b, k, none⟩) HB.out]
              exact (World.cell?_alloc_past _ _ _ hbw).trans c0)
          clear c2
          go_wp2_with fail
          go_region_held3 (fun w' => w'.cell? ⟨b, k1, none⟩ = some (.int .i64 x1) ∧ w'.cell? ⟨b, k, none⟩ = some (.int .i64 x0))
            (first | go_keep | exact HC1.out _ B1)
            ((refine step_push2 _ (by rfl) _ _ (by rfl) w.heap.size _ R (x1 - x0) ⟨wr.heap.size, 0, none⟩ (by rfl) (by rfl) HYC1.out ((O1.out.alloc _).drew) HZ1.out HBS1.out ?_; intro v1' w1 P1 B1 A1))
          have P2 := A1 _ _ ((O2.out.alloc _).drew) AP.out.symm
          have B1b := Lib.hid (B.out.trans (((Below.refl _ _).alloc B.out.size _).drew.trans B1))
          have O1b := Lib.hid (P1.one HR1.out)
          have O2b := Lib.hid P2.1
          have APb := Lib.hid P2.2.symm
          clear P1 P2 A1 O1 O2 AP B1
          have c0b := (B1b.out.cell (p := ⟨b, k, none⟩) HB.out).trans HX0.out
          have c2 := (B1b.out.cell (p := ⟨b, k2, none⟩) HB.out).trans HX2.out
          have HBS2 : Hid (w.heap.size ≤ (w1.alloc (.cells #[.int .i64 (x2 - x0)] 2)).drew.heap.size) := Lib.hid (by have := B1b.out.size; simp; omega)
          have HYC2 : Hid ((w1.alloc (.cells #[.int .i64 (x2 - x0)] 2)).drew.cell? ⟨w1.heap.size, 0, none⟩ = some (.int .i64 (x2 - x0))) := Lib.hid (World.cell?_alloc_at _ _ _ _ rfl)
          have HC2 : Hid (∀ W, Below w.heap.size (w1.alloc (.cells #[.int .i64 (x2 - x0)] 2)).drew W → W.cell? ⟨b, k2, none⟩ = some (.int .i64 x2) ∧ W.cell? ⟨b, k, none⟩ = some (.int .i64 x0)) := Lib.hid (fun W bl => by
            have hbw : b < w1.heap.size := by have := HB.out; have := B1b.out.size; omega
            refine ⟨?_, ?_⟩
            · rw [bl.cell (p := ⟨b, k2, none⟩) HB.out]
              exact (World.cell?_alloc_past _ _ _ hbw).trans c2
            · rw [bl.cell (p := ⟨b, k, none⟩) HB.out]
              exact (World.cell?_alloc_past _ _ _ hbw).trans c0b)
          clear c0 c1 B
          go_wp2_with fail
          go_region_held3 (fun w' => w'.cell? ⟨b, k2, none⟩ = some (.int .i64 x2) ∧ w'.cell? ⟨b, k, none⟩ = some (.int .i64 x0))
            (first | go_keep | exact HC2.out _ B2)
            ((refine step_push2 _ (by rfl) _ _ (by rfl) w.heap.size _ C (x2 - x0) ⟨w1.heap.size, 0, none⟩ (by rfl) (by rfl) HYC2.out ((O2b.out.alloc _).drew) HZ2.out HBS2.out ?_; intro v2' w2 P1 B2 A1))
          have P2 := A1 _ _ ((O1b.out.alloc _).drew) APb.out
          have B2b := Lib.hid (B1b.out.trans (((Below.refl _ _).alloc B1b.out.size _).drew.trans B2))
          have O2c := Lib.hid (P1.one HR2.out)
          have O1c := Lib.hid P2.1
          have APc := Lib.hid P2.2
          clear P1 P2 A1 B2
          go_wp2
          have e1 := HK1.out
          subst e1
          exact ⟨⟨k + 1, by omega, by first | rfl | go_num, O1c, O2c, APc, B2b⟩, by simp [intOf]; omega⟩
        · have hx1 := HRi.out k hr hlt
          have HR1 := Lib.hid (rowsD_yes m L k hr)
          have dr : decide ((k : Int) % (m : Int) < (m : Int) - 1) = true := by rw [← Int.natCast_emod]; simp; omega
          have c1 := (B.out.cell (p := ⟨b, k + 1, none⟩) HB.out).trans (HCell.out (k + 1) hx1)
          have a1 := HA.out (k + 1) hx1
          have hj1 : IntKind.i64.wrap ((k : Int) + 1) = ((k + 1 : Nat) : Int) := by rw [Int.natCast_add]; exact IntWalk.i64_in _ (by omega)
          have hj2 : ((k + 1 : Nat) : Int) < (N : Int) := by omega
          have hj3 : (0 : Int) ≤ ((k + 1 : Nat) : Int) := by omega
          have HR2 := Lib.hid (colsD_no m L k (by omega))
          have dc : decide ((qq : Int) < (m : Int) - 1) = false := by simp; omega
          have hs1 : IntKind.i64.wrap (L.getD (k + 1) 0 - L.getD k 0) = L.getD (k + 1) 0 - L.getD k 0 := IntWalk.i64_in _ (by omega)
          generalize L.getD k 0 = x0 at *
          generalize L.getD (k + 1) 0 = x1 at *
          generalize rowsD m L k = R at *
          obtain ⟨k1, hk1e⟩ : ∃ k1, k + 1 = k1 := ⟨_, rfl⟩
          rw [hk1e] at hj1 hj2 hj3 c1
          have HK1 := Lib.hid hk1e
          clear hk1e hqq hx1
          have HBS1 : Hid (w.heap.size ≤ (wr.alloc (.cells #[.int .i64 (x1 - x0)] 2)).drew.heap.size) := Lib.hid (by have := B.out.size; simp; omega)
          have HYC1 : Hid ((wr.alloc (.cells #[.int .i64 (x1 - x0)] 2)).drew.cell? ⟨wr.heap.size, 0, none⟩ = some (.int .i64 (x1 - x0))) := Lib.hid (World.cell?_alloc_at _ _ _ _ rfl)
          have HC1 : Hid (∀ W, Below w.heap.size (wr.alloc (.cells #[.int .i64 (x1 - x0)] 2)).drew W → W.cell? ⟨b, k1, none⟩ = some (.int .i64 x1) ∧ W.cell? ⟨b, k, none⟩ = some (.int .i64 x0)) := Lib.hid (fun W bl => by
            have hbw : b < wr.heap.size := by have := HB.out; have := B.out.size; omega
            refine ⟨?_, ?_⟩
            · rw [bl.cell (p := ⟨b, k1, none⟩) HB.out]
              exact (World.cell?_alloc_past _ _ _ hbw).trans c1
            · rw [bl.cell (p := ⟨b, k, none⟩) HB.out]
              exact (World.cell?_alloc_past _ _ _ hbw).trans c0)
          go_wp2_with fail
          go_region_held3 (fun w' => w'.cell? ⟨b, k1, none⟩ = some (.int .i64 x1) ∧ w'.cell? ⟨b, k, none⟩ = some (.int .i64 x0))
            (first | go_keep | exact HC1.out _ B1)
            ((refine step_push2 _ (by rfl) _ _ (by rfl) w.heap.size _ R (x1 - x0) ⟨wr.heap.size, 0, none⟩ (by rfl) (by rfl) HYC1.out ((O1.out.alloc _).drew) HZ1.out HBS1.out ?_; intro v1' w1 P1 B1 A1))
          have P2 := A1 _ _ ((O2.out.alloc _).drew) AP.out.symm
          have B1b := Lib.hid (B.out.trans (((Below.refl _ _).alloc B.out.size _).drew.trans B1))
          have O1b := Lib.hid (P1.one HR1.out)
          have O2b := Lib.hid P2.1
          have APb := Lib.hid P2.2.symm
          clear P1 P2 A1 O1 O2 AP B1
          have O2c := Lib.hid (O2b.out.one HR2.out)
          go_wp2
          have e1 := HK1.out
          subst e1
          exact ⟨⟨k + 1, by omega, by first | rfl | go_num, O1b, O2c, APb, B1b⟩, by simp [intOf]; omega⟩
      · have HR1 := Lib.hid (rowsD_no m L k hr)
        have dr : decide ((k : Int) % (m : Int) < (m : Int) - 1) = false := by rw [← Int.natCast_emod]; simp; omega
        by_cases hc : qq < m - 1
        · have hx2 := HBe.out k (by omega)
          have HR2 := Lib.hid (colsD_yes m L k (by omega))
          have dc : decide ((qq : Int) < (m : Int) - 1) = true := by simp; omega
          have c2 := (B.out.cell (p := ⟨b, k + m, none⟩) HB.out).trans (HCell.out (k + m) hx2)
          have a2 := HA.out (k + m) hx2
          have hl1 : IntKind.i64.wrap ((k : Int) + (m : Int)) = ((k + m : Nat) : Int) := by rw [Int.natCast_add]; exact IntWalk.i64_in _ (by omega)
          have hl2 : ((k + m : Nat) : Int) < (N : Int) := by omega
          have hl3 : (0 : Int) ≤ ((k + m : Nat) : Int) := by omega
          have hs2 : IntKind.i64.wrap (L.getD (k + m) 0 - L.getD k 0) = L.getD (k + m) 0 - L.getD k 0 := IntWalk.i64_in _ (by omega)
          have O1z := Lib.hid (O1.out.one HR1.out)
          generalize L.getD k 0 = x0 at *
          generalize L.getD (k + m) 0 = x2 at *
          generalize colsD m L k = C at *
          clear hqq hx2
          generalize hk2e : k + m = k2 at *
          clear hk2e
          have HBS2 : Hid (w.heap.size ≤ (wr.alloc (.cells #[.int .i64 (x2 - x0)] 2)).drew.heap.size) := Lib.hid (by have := B.out.size; simp; omega)
          have HYC2 : Hid ((wr.alloc (.cells #[.int .i64 (x2 - x0)] 2)).drew.cell? ⟨wr.heap.size, 0, none⟩ = some (.int .i64 (x2 - x0))) := Lib.hid (World.cell?_alloc_at _ _ _ _ rfl)
          have HC2 : Hid (∀ W, Below w.heap.size (wr.alloc (.cells #[.int .i64 (x2 - x0)] 2)).drew W → W.cell? ⟨b, k2, none⟩ = some (.int .i64 x2) ∧ W.cell? ⟨b, k, none⟩ = some (.int .i64 x0)) := Lib.hid (fun W bl => by
            have hbw : b < wr.heap.size := by have := HB.out; have := B.out.size; omega
            refine ⟨?_, ?_⟩
            · rw [bl.cell (p := ⟨b, k2, none⟩) HB.out]
              exact (World.cell?_alloc_past _ _ _ hbw).trans c2
            · rw [bl.cell (p := ⟨b, k, none⟩) HB.out]
              exact (World.cell?_alloc_past _ _ _ hbw).trans c0)
          go_wp2_with fail
          go_region_held3 (fun w' => w'.cell? ⟨b, k2, none⟩ = some (.int .i64 x2) ∧ w'.cell? ⟨b, k, none⟩ = some (.int .i64 x0))
            (first | go_keep | exact HC2.out _ B2)
            ((refine step_push2 _ (by rfl) _ _ (by rfl) w.heap.size _ C (x2 - x0) ⟨wr.heap.size, 0, none⟩ (by rfl) (by rfl) HYC2.out ((O2.out.alloc _).drew) HZ2.out HBS2.out ?_; intro v2' w2 P1 B2 A1))
          have P2 := A1 _ _ ((O1z.out.alloc _).drew) AP.out
          have B2b := Lib.hid (B.out.trans (((Below.refl _ _).alloc B.out.size _).drew.trans B2))
          have O2c := Lib.hid (P1.one HR2.out)
          have O1c := Lib.hid P2.1
          have APc := Lib.hid P2.2
          clear P1 P2 A1 B2
          go_wp2
          exact ⟨⟨k + 1, by omega, by first | rfl | go_num, O1c, O2c, APc, B2b⟩, by simp [intOf]; omega⟩
        · have HR2 := Lib.hid (colsD_no m L k (by omega))
          have dc : decide ((qq : Int) < (m : Int) - 1) = false := by simp; omega
          have O1z := Lib.hid (O1.out.one HR1.out)
          have O2z := Lib.hid (O2.out.one HR2.out)
          generalize L.getD k 0 = x0 at *
          clear hqq
          go_wp2
          exact ⟨⟨k + 1, by omega, by first | rfl | go_num, O1z, O2z, AP, B⟩, by simp [intOf]; omega⟩
    · obtain rfl : k = N := by omega
      go_wp2_with fail
      refine (HMR.out _ _ _ O1.out).mono ?_
      rintro e w1 ⟨rfl, b1⟩
      have B1 := Lib.hid (B.out.trans (b1.mono B.out.size))
      have P2 := Lib.hid (O2.out.below b1 (Nat.le_refl _))
      clear b1
      go_wp2_with fail
      refine (HMC.out _ _ _ P2.out).mono ?_
      rintro e w2 ⟨rfl, b2⟩
      have B2 := Lib.hid (B1.out.trans (b2.mono B1.out.size))
      clear b2
      go_wp2_with fail
      go_ret2
      exact ⟨_, rfl, Own.two _ mr mc w2 B2.out.size, B2.out.alloc B2.out.size _⟩
end Go.Proofs.Ytjmfffgddmnkmac
