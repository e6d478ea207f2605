/- Grids of places: what the model answers. Condition: none. -/
import Derived.Test.YtjmfffgddmnkmabGp
namespace Go.Proofs.Ytjmfffgddmnkmab
open Go Go.RowKit

theorem OwnP.empty (B : Nat) (w : World) (hB : B ≤ w.heap.size) : OwnP B (.slice (some ⟨w.heap.size, 0, none⟩) 0 0) 0 [] (w.alloc (.cells #[] 109)) :=
  ⟨rfl, .inr ⟨w.heap.size, 0, #[], rfl, hB, heap_alloc_new w _, by simp, by simp, rfl, rfl⟩⟩

set_option maxRecDepth 100000 in
set_option maxHeartbeats 1600000 in
theorem specGrid_any (n s : Int) (hn : side n = true) (hs : 1 ≤ s) : Grids 50 n s (gridK n s) (gridR n s) (gridC n s) := by
  intro w
  have HS := Lib.hid hn
  obtain ⟨m, rfl⟩ : ∃ m : Nat, n = m := ⟨n.toNat, by rcases side_yes n hn with rfl | rfl | rfl | rfl <;> rfl⟩
  have hm8 : m ≤ 8 := by rcases side_yes _ hn with h | h | h | h <;> omega
  have hlt1 : decide (s < 1) = false := by simp; omega
  have hs0 : s ≠ 0 := by omega
  clear hn
  go_enter Try.func50, Try.ntmps50
  go_wp2_with fail
  refine (l01Side_any m _).mono ?_
  rw [HS.out]
  rintro e w1 ⟨rfl, rfl⟩
  go_wp2_with fail
  go_loopw [7, 6] (fun i p wr => ∃ y : Nat, ∃ k, y ≤ m ∧ i = .int .i64 y ∧ Hid (k ≤ y * m) ∧ Hid (OwnP w.heap.size p k (gOut m s y) wr) ∧ Hid (Below w.heap.size w wr)) (fun i _ _ => m - (intOf i).toNat)
  case atStart => exact ⟨0, 0, by omega, rfl, Lib.hid (by omega), Lib.hid (OwnP.empty _ _ (Nat.le_refl _)), Lib.hid ((Below.refl _ _).alloc (Nat.le_refl _) _)⟩
  case round =>
    obtain ⟨y, k, hy, rfl, HK, O, B⟩ := hrel
    by_cases hlt : y < m
    · have hdk : decide ((y : Int) < (m : Int)) = true := by simp; omega
      go_wp2_with fail
      go_loopw [8, 6] (fun i p wv => ∃ x : Nat, ∃ k, x ≤ m ∧ i = .int .i64 x ∧ Hid (k ≤ y * m + x) ∧ Hid (OwnP w.heap.size p k (gIn s y (gOut m s y) x) wv) ∧ Hid (Below w.heap.size w wv)) (fun i _ _ => m - (intOf i).toNat)
      case atStart => exact ⟨0, k, by omega, rfl, Lib.hid (by have := HK.out; omega), O, B⟩
      case round =>
        obtain ⟨x, q, hx, rfl, HQ, O2, B2⟩ := hrel
        by_cases hlt2 : x < m
        · have hdk2 : decide ((x : Int) < (m : Int)) = true := by simp; omega
          have hx1 : IntKind.i64.wrap ((x : Int) + 1) = ((x + 1 : Nat) : Int) := by rw [← Int.natCast_succ]; exact IntWalk.i64_in _ (by omega)
          by_cases h1 : (y : Int) % s = 0
          · have e1 : (((y : Int).tmod s) == 0) = true := by rw [remS, h1]; rfl
            by_cases h2 : (x : Int) % s = 0
            · have e2 : (((x : Int).tmod s) == 0) = true := by rw [remS, h2]; rfl
              have HG := Lib.hid (gIn_yes (s := s) (gOut m s y) h1 h2)
              have hq : q ≤ 1048576 := by
                have := HQ.out
                have : y * m ≤ 8 * 8 := Nat.mul_le_mul (by omega) hm8
                omega
              have HQ1 := Lib.hid hq
              clear hq
              have g1 : (((y : Int) % s) == 0) = true := by rw [h1]; rfl
              have g2 : (((x : Int) % s) == 0) = true := by rw [h2]; rfl
              go_wp2_with (at_builtin; refine wpList_pushP rfl (.tmp 37) (.tmp 41) rfl w.heap.size _ q _ (y : Int) (x : Int) rfl rfl O2.out HQ1.out B2.out.size ?_)
              intro v3 w3 o3 k3
              rw [HG.out] at o3
              have O3 := Lib.hid o3
              have B3 := Lib.hid (B2.out.trans (k3.mono (Nat.le_refl _)))
              clear o3 k3
              go_wp2_with fail
              exact ⟨⟨x + 1, q + 1, by omega, by go_num, Lib.hid (by have := HQ.out; omega), O3, B3⟩, by simp [intOf]; omega⟩
            · have g1 : (((y : Int) % s) == 0) = true := by rw [h1]; rfl
              have g2 : (((x : Int) % s) == 0) = false := by simpa using h2
              have HG := Lib.hid (gIn_no (s := s) (y := y) (x := x) (gOut m s y) (fun h => h2 h.2))
              go_wp2_with fail
              exact ⟨⟨x + 1, q, by omega, by go_num, Lib.hid (by have := HQ.out; omega), Lib.hid (by rw [← HG.out]; exact O2.out), B2⟩, by simp [intOf]; omega⟩
          · have g1 : (((y : Int) % s) == 0) = false := by simpa using h1
            have HG := Lib.hid (gIn_no (s := s) (y := y) (x := x) (gOut m s y) (fun h => h1 h.1))
            go_wp2_with fail
            exact ⟨⟨x + 1, q, by omega, by go_num, Lib.hid (by have := HQ.out; omega), Lib.hid (by rw [← HG.out]; exact O2.out), B2⟩, by simp [intOf]; omega⟩
        · obtain rfl : x = m := by omega
          have hy1 : IntKind.i64.wrap ((y : Int) + 1) = ((y + 1 : Nat) : Int) := by rw [← Int.natCast_succ]; exact IntWalk.i64_in _ (by omega)
          go_wp2_with fail
          exact ⟨⟨y + 1, q, by omega, by go_num, Lib.hid (by have := HQ.out; rw [Nat.succ_mul]; omega), O2, B2⟩, by simp [intOf]; omega⟩
    · obtain rfl : y = m := by omega
      have hl := O.out.len
      have hk : k = (gOut y s y).length / 2 := by omega
      have HR := Lib.hid hk
      obtain ⟨ad, cp, e0, _⟩ := O.out.came
      subst e0
      by_cases hbig : k ≤ 20
      · have hd : decide ((k : Int) > 20) = false := by simp; omega
        have HKR : Hid (gridK (y : Int) s = k ∧ gridR (y : Int) s = gOut y s y ∧ gridC (y : Int) s = 0) := Lib.hid (by
          have hc : side (y : Int) = true ∧ 1 ≤ s ∧ (gOut (y : Int).toNat s (y : Int).toNat).length / 2 ≤ 20 := ⟨HS.out, hs, by rw [Int.toNat_natCast, ← hk]; exact hbig⟩
          refine ⟨?_, ?_, ?_⟩
          · unfold gridK; rw [if_pos hc, Int.toNat_natCast, ← hk]
          · unfold gridR; rw [if_pos hc, Int.toNat_natCast]
          · unfold gridC; rw [if_pos hc])
        clear hl hk
        go_wp2_with fail
        go_ret2
        obtain ⟨k1, k2, k3⟩ := HKR.out
        rw [k1, k2, k3]
        exact ⟨_, rfl, O.out, B.out⟩
      · have hd : decide ((k : Int) > 20) = true := by simp; omega
        have HKR : Hid (gridK (y : Int) s = 0 ∧ gridR (y : Int) s = [] ∧ gridC (y : Int) s = 2) := Lib.hid (by
          have hc : ¬ (side (y : Int) = true ∧ 1 ≤ s ∧ (gOut (y : Int).toNat s (y : Int).toNat).length / 2 ≤ 20) := fun h => by
            have := h.2.2
            rw [Int.toNat_natCast, ← hk] at this
            omega
          refine ⟨?_, ?_, ?_⟩
          · unfold gridK; rw [if_neg hc]
          · unfold gridR; rw [if_neg hc]
          · unfold gridC; rw [if_neg hc])
        clear hl hk
        go_wp2_with fail
        go_ret2
        obtain ⟨k1, k2, k3⟩ := HKR.out
        rw [k1, k2, k3]
        exact ⟨_, rfl, OwnP.zero _ _, B.out⟩

set_option maxRecDepth 100000 in
set_option maxHeartbeats 800000 in
theorem specGrid_no (n s : Int) (h : ¬ (side n = true ∧ 1 ≤ s)) : Grids 50 n s (gridK n s) (gridR n s) (gridC n s) := by
  intro w
  obtain ⟨k1, k2, k3⟩ := grid_out h
  rw [k1, k2, k3]
  cases hs : side n
  · have HS := Lib.hid hs
    clear hs h k1 k2 k3
    go_enter Try.func50, Try.ntmps50
    go_wp2_with fail
    refine (l01Side_any n _).mono ?_
    rw [HS.out]
    rintro e w1 ⟨rfl, rfl⟩
    go_wp2_with fail
    go_ret2
    exact ⟨_, rfl, OwnP.zero _ _, Below.refl _ _⟩
  · have HS := Lib.hid hs
    have hlt1 : decide (s < 1) = true := by
      simp
      rcases Int.lt_or_le s 1 with h1 | h1
      · exact h1
      · exact absurd ⟨hs, h1⟩ h
    clear hs h k1 k2 k3
    go_enter Try.func50, Try.ntmps50
    go_wp2_with fail
    refine (l01Side_any n _).mono ?_
    rw [HS.out]
    rintro e w1 ⟨rfl, rfl⟩
    go_wp2_with fail
    go_ret2
    exact ⟨_, rfl, OwnP.zero _ _, Below.refl _ _⟩

theorem specGrid (n s : Int) : Grids 50 n s (gridK n s) (gridR n s) (gridC n s) := by
  by_cases h : side n = true ∧ 1 ≤ s
  · exact specGrid_any n s h.1 h.2
  · exact specGrid_no n s h

end Go.Proofs.Ytjmfffgddmnkmab
