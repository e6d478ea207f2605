/- UnwrapRows: what the model answers. Condition: a list that a law lets in. -/
import Derived.Test.YtjmfffgddmnkmacM9
import Derived.Test.YtjmfffgddmnkmacM10
import Derived.Test.YtjmfffgddmnkmacUw
import Derived.Deep.RegionHeld3
import Derived.Deep.DrawnRows
namespace Go.Proofs.Ytjmfffgddmnkmac
open Go Go.RowKit
attribute [local go_sem ↓] Go.wp_at_zero Go.wp_at_succ

set_option maxRecDepth 100000 in
set_option maxHeartbeats 1600000 in
theorem specUr_no (n : Int) (L : List Int) (hc0 : codeW n L ≠ 0) : Lists 8 n L [] (codeW n L) := by
  intro hn v w hO
  obtain ⟨a, cap, rfl, hC⟩ := hO.came
  have HI := Lib.hid (l07Code_any n a L.length cap L w hC hn)
  have hq : (codeW n L != 0) = true := by simpa using hc0
  clear hC hO hc0
  generalize codeW n L = c at *
  go_enter Try.func8, Try.ntmps8
  go_wp2_with fail
  refine HI.out.mono ?_
  rintro e w1 ⟨rfl, rfl⟩
  go_wp2_with fail
  go_ret2
  exact ⟨_, rfl, Own.zero _ _, Below.refl _ _⟩

set_option maxRecDepth 100000 in
set_option maxHeartbeats 3200000 in
theorem specUr_yes (n : Int) (L : List Int) (hc0 : codeW n L = 0) : Lists 8 n L (unw n.toNat L L.length) 0 := by
  intro hn v w hO
  obtain ⟨hm, hW⟩ := codeW_zero hc0
  obtain ⟨m, rfl, hm1, hm8, hlen⟩ := isMap_nat hm
  obtain ⟨b, cap, rfl, _, hb⟩ := hO.form (isMap_pos hm)
  obtain ⟨a', cap', e', hC⟩ := hO.came
  cases e'
  have HI := Lib.hid (l07Code_any m (some ⟨b, 0, none⟩) L.length cap L w hC hn)
  rw [hc0] at HI
  have HCell : Hid (∀ i, i < L.length → w.cell? ⟨b, i, none⟩ = some (.int .i64 (L.getD i 0))) := Lib.hid (fun i hi => hO.cell i hi)
  have HB : Hid (b < w.heap.size) := Lib.hid hb
  have HBd := Lib.hid (unw_bound m L (fun i => isW_getD hW i))
  have HW := Lib.hid (fun i => isW_getD hW i)
  have HN64 := Lib.hid (map_le hm)
  rw [show (m : Int).toNat = m from by simp]
  have HLen := Lib.hid hlen
  have hw0 : IntKind.i64.wrap ((m : Int) * (m : Int)) = (L.length : Int) := by
    rw [← Int.natCast_mul, ← hlen]; exact IntWalk.i64_in _ (by have := map_le hm; omega)
  clear hC hO hm hW hb hc0 hlen
  generalize hN : L.length = N at *
  have HN := Lib.hid hN
  have hN64 : N ≤ 64 := HN64.out
  clear hN
  go_enter Try.func8, Try.ntmps8
  go_wp2_with fail
  refine HI.out.mono ?_
  rintro e w1 ⟨rfl, rfl⟩
  go_wp2_with fail
  go_loopw [7, 8] (fun v i wr => ∃ k : Nat, k ≤ N ∧ i = .int .i64 k ∧ Hid (Own w.heap.size v (unw m L k) wr) ∧ Hid (Below w.heap.size w wr)) (fun _ i _ => N - (intOf i).toNat)
  case atStart => exact ⟨0, by omega, rfl, Lib.hid (Own.empty _ _ (Nat.le_refl _)), Lib.hid ((Below.refl _ _).alloc (Nat.le_refl _) _)⟩
  case round =>
    obtain ⟨k, hk, rfl, O, B⟩ := hrel
    by_cases hlt : k < N
    · have hdk : decide ((k : Int) < (N : Int)) = true := by simp; omega
      have HZ : Hid ((unw m L k).length ≤ 1048576) := Lib.hid (by rw [unw_len]; omega)
      have HU : Hid (unw m L k ++ [unwStep m L (unw m L k) k] = unw m L (k + 1)) := Lib.hid rfl
      have c1 := (B.out.cell (p := ⟨b, k, none⟩) HB.out).trans (HCell.out k hlt)
      by_cases h0 : k = 0
      · subst h0
        have c0 := (B.out.cell (p := ⟨b, 0, none⟩) HB.out).trans (HCell.out 0 hlt)
        rw [unwStep_zero] at HU
        clear c1
        generalize L.getD 0 0 = x at *
        generalize unw m L 0 = U at *
        go_wp2_with (at_builtin; refine wpList_push rfl (.tmp 45) (.tmp 49) rfl w.heap.size _ U x rfl rfl O.out HZ.out B.out.size ?_)
        intro v' w2 O2 B2
        have O3 := Lib.hid (O2.one HU.out)
        have B3 := Lib.hid (B.out.trans B2)
        clear O2 B2
        go_wp2
        exact ⟨⟨0 + 1, by omega, by go_num, O3, B3⟩, by simp [intOf]; omega⟩
      · have hk0 : ((k : Int) == 0) = false := by simp; omega
        obtain ⟨g, cp, hgv, hg1, hg2⟩ := O.out.form (by rw [unw_len]; omega)
        rw [unw_len] at hgv
        subst hgv
        have O0 : Own w.heap.size (.slice (some ⟨g, 0, none⟩) (unw m L k).length cp) (unw m L k) wr := by rw [unw_len]; exact O.out
        have HNB : Hid (b < w.heap.size) := HB
        by_cases hmod : k % m = 0
        · have hmk : m ≤ k := by
            rcases Nat.lt_or_ge k m with h | h
            · rw [Nat.mod_eq_of_lt h] at hmod; omega
            · exact h
          have hq : (((k : Int) % (m : Int)) == 0) = true := by rw [← Int.natCast_emod, hmod]; rfl
          rw [unwStep_up m L _ k h0 hmod] at HU
          have c2 := (B.out.cell (p := ⟨b, k - m, none⟩) HB.out).trans (HCell.out (k - m) (by omega))
          have c3 := O0.cell (k - m) (by rw [unw_len]; omega)
          have HG : Hid (∀ w1, Own w.heap.size (.slice (some ⟨g, 0, none⟩) k cp) (unw m L k) w1 → w1.cell? ⟨g, k - m, none⟩ = some (.int .i64 ((unw m L k).getD (k - m) 0))) := Lib.hid (fun w1 o => by
            have o' : Own w.heap.size (.slice (some ⟨g, 0, none⟩) (unw m L k).length cp) (unw m L k) w1 := by rw [unw_len]; exact o
            exact o'.cell (k - m) (by rw [unw_len]; omega))
          clear O0
          have hb1 := HBd.out k (k - m)
          have hl1 := lessH_range (L.getD (k - m) 0) (L.getD k 0)
          have HD := Lib.hid (fun w => l07Less_any (L.getD (k - m) 0) (L.getD k 0) (by have := HW.out (k - m); omega) (by have := HW.out k; omega) w)
          have hlU := unw_len m L k
          generalize L.getD (k - m) 0 = x at *
          generalize L.getD k 0 = y at *
          generalize (unw m L k).getD (k - m) 0 = u at *
          generalize lessH x y = d at *
          generalize unw m L k = U at *
          clear hmod hlU
          generalize hj : k - m = j at *
          have hj1 : (k : Int) - (m : Int) = (j : Int) := by omega
          have hjw : IntKind.i64.wrap ((k : Int) - (m : Int)) = (j : Int) := by rw [hj1]; exact IntWalk.i64_in _ (by omega)
          have hjj : IntKind.i64.wrap (j : Int) = (j : Int) := IntWalk.i64_in _ (by omega)
          have hj2 : (0 : Int) ≤ (j : Int) := by omega
          have hj3 : (j : Int) < (k : Int) := by omega
          have hj4 : (j : Int) < (N : Int) := by omega
          have hj5 : (0 : Int) ≤ (k : Int) := by omega
          have hj6 : (k : Int) < (N : Int) := by omega
          clear hj
          have hud : IntKind.i64.wrap (u + d) = u + d := IntWalk.i64_in _ (by omega)
          have HBS : Hid (w.heap.size ≤ (wr.alloc (.cells #[.int .i64 (u + d)] 2)).drew.heap.size) := Lib.hid (by have := B.out.size; simp; omega)
          have HYC : Hid ((wr.alloc (.cells #[.int .i64 (u + d)] 2)).drew.cell? ⟨wr.heap.size, 0, none⟩ = some (.int .i64 (u + d))) := Lib.hid (World.cell?_alloc_at _ _ _ _ rfl)
          have HC : Hid (∀ w1, Own w.heap.size (.slice (some ⟨g, 0, none⟩) k cp) U w1 → Below w.heap.size (wr.alloc (.cells #[.int .i64 (u + d)] 2)).drew w1 → w1.cell? ⟨g, j, none⟩ = some (.int .i64 u) ∧ w1.cell? ⟨b, j, none⟩ = some (.int .i64 x) ∧ w1.cell? ⟨b, k, none⟩ = some (.int .i64 y)) := Lib.hid (fun w1 o bl => by
            have hbw : b < wr.heap.size := by have := HB.out; have := B.out.size; omega
            refine ⟨HG.out w1 o, ?_, ?_⟩
            · rw [bl.cell (p := ⟨b, j, none⟩) HB.out]
              exact (World.cell?_alloc_past _ _ _ hbw).trans c2
            · rw [bl.cell (p := ⟨b, k, none⟩) HB.out]
              exact (World.cell?_alloc_past _ _ _ hbw).trans c1)
          go_wp2_with fail
          go_region_held3 (fun w' => w'.cell? ⟨g, j, none⟩ = some (.int .i64 u) ∧ w'.cell? ⟨b, j, none⟩ = some (.int .i64 x) ∧ w'.cell? ⟨b, k, none⟩ = some (.int .i64 y))
            (first
              | go_keep
              | exact HC.out _ O0 B1)
            (first
              | (go_at_call 34; refine (HD.out _).mono ?_; rintro e w' ⟨rfl, rfl⟩)
              | (refine step_push _ (by rfl) _ _ (by rfl) w.heap.size _ U (u + d) ⟨wr.heap.size, 0, none⟩ (by rfl) (by rfl) HYC.out ((O.out.alloc _).drew) HZ.out HBS.out ?_; intro v' w1 O1 O0 B1))
          have O3 := Lib.hid (O1.one HU.out)
          have B3 := Lib.hid (B.out.trans (((Below.refl _ _).alloc (by have := B.out.size; omega) _).drew.trans B1))
          go_wp2
          exact ⟨⟨k + 1, by omega, by go_num, O3, B3⟩, by simp [intOf]; omega⟩
        · have hq : (((k : Int) % (m : Int)) == 0) = false := by rw [← Int.natCast_emod]; simp; omega
          rw [unwStep_left m L _ k h0 hmod] at HU
          have c2 := (B.out.cell (p := ⟨b, k - 1, none⟩) HB.out).trans (HCell.out (k - 1) (by omega))
          have c3 := O0.cell (k - 1) (by rw [unw_len]; omega)
          have HG : Hid (∀ w1, Own w.heap.size (.slice (some ⟨g, 0, none⟩) k cp) (unw m L k) w1 → w1.cell? ⟨g, k - 1, none⟩ = some (.int .i64 ((unw m L k).getD (k - 1) 0))) := Lib.hid (fun w1 o => by
            have o' : Own w.heap.size (.slice (some ⟨g, 0, none⟩) (unw m L k).length cp) (unw m L k) w1 := by rw [unw_len]; exact o
            exact o'.cell (k - 1) (by rw [unw_len]; omega))
          clear O0
          have hb1 := HBd.out k (k - 1)
          have hl1 := lessH_range (L.getD (k - 1) 0) (L.getD k 0)
          have HD := Lib.hid (fun w => l07Less_any (L.getD (k - 1) 0) (L.getD k 0) (by have := HW.out (k - 1); omega) (by have := HW.out k; omega) w)
          have hlU := unw_len m L k
          generalize L.getD (k - 1) 0 = x at *
          generalize L.getD k 0 = y at *
          generalize (unw m L k).getD (k - 1) 0 = u at *
          generalize lessH x y = d at *
          generalize unw m L k = U at *
          clear hmod hlU
          generalize hj : k - 1 = j at *
          have hj1 : (k : Int) - 1 = (j : Int) := by omega
          have hjw : IntKind.i64.wrap ((k : Int) - 1) = (j : Int) := by rw [hj1]; exact IntWalk.i64_in _ (by omega)
          have hjj : IntKind.i64.wrap (j : Int) = (j : Int) := IntWalk.i64_in _ (by omega)
          have hj2 : (0 : Int) ≤ (j : Int) := by omega
          have hj3 : (j : Int) < (k : Int) := by omega
          have hj4 : (j : Int) < (N : Int) := by omega
          have hj5 : (0 : Int) ≤ (k : Int) := by omega
          have hj6 : (k : Int) < (N : Int) := by omega
          clear hj
          have hud : IntKind.i64.wrap (u + d) = u + d := IntWalk.i64_in _ (by omega)
          have HBS : Hid (w.heap.size ≤ (wr.alloc (.cells #[.int .i64 (u + d)] 2)).drew.heap.size) := Lib.hid (by have := B.out.size; simp; omega)
          have HYC : Hid ((wr.alloc (.cells #[.int .i64 (u + d)] 2)).drew.cell? ⟨wr.heap.size, 0, none⟩ = some (.int .i64 (u + d))) := Lib.hid (World.cell?_alloc_at _ _ _ _ rfl)
          have HC : Hid (∀ w1, Own w.heap.size (.slice (some ⟨g, 0, none⟩) k cp) U w1 → Below w.heap.size (wr.alloc (.cells #[.int .i64 (u + d)] 2)).drew w1 → w1.cell? ⟨g, j, none⟩ = some (.int .i64 u) ∧ w1.cell? ⟨b, j, none⟩ = some (.int .i64 x) ∧ w1.cell? ⟨b, k, none⟩ = some (.int .i64 y)) := Lib.hid (fun w1 o bl => by
            have hbw : b < wr.heap.size := by have := HB.out; have := B.out.size; omega
            refine ⟨HG.out w1 o, ?_, ?_⟩
            · rw [bl.cell (p := ⟨b, j, none⟩) HB.out]
              exact (World.cell?_alloc_past _ _ _ hbw).trans c2
            · rw [bl.cell (p := ⟨b, k, none⟩) HB.out]
              exact (World.cell?_alloc_past _ _ _ hbw).trans c1)
          go_wp2_with fail
          go_region_held3 (fun w' => w'.cell? ⟨g, j, none⟩ = some (.int .i64 u) ∧ w'.cell? ⟨b, j, none⟩ = some (.int .i64 x) ∧ w'.cell? ⟨b, k, none⟩ = some (.int .i64 y))
            (first
              | go_keep
              | exact HC.out _ O0 B1)
            (first
              | (go_at_call 34; refine (HD.out _).mono ?_; rintro e w' ⟨rfl, rfl⟩)
              | (refine step_push _ (by rfl) _ _ (by rfl) w.heap.size _ U (u + d) ⟨wr.heap.size, 0, none⟩ (by rfl) (by rfl) HYC.out ((O.out.alloc _).drew) HZ.out HBS.out ?_; intro v' w1 O1 O0 B1))
          have O3 := Lib.hid (O1.one HU.out)
          have B3 := Lib.hid (B.out.trans (((Below.refl _ _).alloc (by have := B.out.size; omega) _).drew.trans B1))
          go_wp2
          exact ⟨⟨k + 1, by omega, by go_num, O3, B3⟩, by simp [intOf]; omega⟩
    · obtain rfl : k = N := by omega
      go_wp2
      go_ret2
      exact ⟨_, rfl, O.out, B.out⟩

end Go.Proofs.Ytjmfffgddmnkmac
