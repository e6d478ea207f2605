/- The model's normed weights: the list and the code. Condition: as many numbers as a law lets in. -/
import Derived.Test.YtjnbbhallihpaaaNw
import Derived.Test.YtjnbbhallihpaaaFinW
namespace Go.Proofs.Ytjnbbhallihpaaa
open Go Go.RowKit

/-- what the numbers up to k are, all of them of at least 0 -/
theorem sm_take (L : List Nat) (k : Nat) (hk : k ≤ L.length) (h : ∀ j, j < k → posF (L.getD j 0) = true) : Sm (sumF (L.take k)) := by
  have hl : (L.take k).length = k := by rw [List.length_take]; omega
  have ha : (L.take k).all posF = true := by
    refine all_yes (fun i hi => ?_)
    rw [hl] at hi
    have e : (L.take k).getD i 0 = L.getD i 0 := by
      rw [List.getD_eq_getElem?_getD, List.getD_eq_getElem?_getD, List.getElem?_take, if_pos hi]
    rw [e]
    exact h i hi
  have := (sumF_any (L.take k) ha k).1
  rwa [List.take_take, Nat.min_self] at this

theorem map_take_succF (f : Nat → Nat) (L : List Nat) (k : Nat) (h : k < L.length) : (L.take k).map f ++ [f (L.getD k 0)] = (L.take (k + 1)).map f := (nw_take L f k h).symm

set_option maxRecDepth 100000 in
set_option maxHeartbeats 1600000 in
theorem specNw (L : List Nat) : ListsF 15 L (nwList L) (nwCode L) := by
  intro hn v w hO
  obtain ⟨a, cap, rfl, hC⟩ := hO.came
  have H1 := Lib.hid hC
  generalize hm : L.length = n at *
  have HL := Lib.hid hm
  clear hC hO hm
  go_enter Try.func15, Try.ntmps15
  go_wp2
  go_loopw [4] (fun i wr => ∃ k : Nat, k ≤ n ∧ i = .int .i64 k ∧ Hid (∀ j, j < k → fin (L.getD j 0) = true) ∧ Hid (Below w.heap.size w wr)) (fun i _ => n - (intOf i).toNat)
  case atStart => exact ⟨0, by omega, rfl, Lib.hid (fun j hj => by omega), Lib.hid (Below.refl _ _)⟩
  case round =>
    obtain ⟨k, hk, rfl, HF, B⟩ := hrel
    by_cases hlt : k < n
    · have hdk : decide ((k : Int) < (n : Int)) = true := by simp; omega
      obtain ⟨b1, o1, rfl, hb1, hc1⟩ := H1.out.2 (by omega)
      have p1 := (B.out.cell (p := ⟨b1, o1 + k, none⟩) hb1).trans (hc1 k hlt)
      clear hb1 hc1
      obtain ⟨x, hx⟩ : ∃ x, x = L.getD k 0 := ⟨_, rfl⟩
      rw [← hx] at p1
      have HX := Lib.hid hx
      clear hx
      go_wp2_with fail
      refine (fine_any x _).mono ?_
      rintro e w1 ⟨rfl, d, rfl⟩
      cases hfx : fin x
      · obtain ⟨e1, e2⟩ := nw_nan L (all_no k (by rw [HL.out]; exact hlt) (by rw [← HX.out]; exact hfx))
        have E1 := Lib.hid e1
        have E2 := Lib.hid e2
        have B2 := Lib.hid (below_drewN B.out d)
        clear e1 e2
        go_wp2
        go_ret2
        exact ⟨_, by rw [E1.out]; rfl, by rw [E2.out]; exact OwnF.zero _ _, B2.out⟩
      · have HF2 : Hid (∀ j, j < k + 1 → fin (L.getD j 0) = true) := Lib.hid (fun j hj => by
          rcases Nat.lt_or_ge j k with h | h
          · exact HF.out j h
          · obtain rfl : j = k := by omega
            rw [← HX.out]; exact hfx)
        have B2 := Lib.hid (below_drewN B.out d)
        go_wp2
        exact ⟨⟨k + 1, by omega, by go_num, HF2, B2⟩, by simp [intOf]; omega⟩
    · obtain rfl : k = n := by omega
      have HA := Lib.hid (all_yes (f := fin) (L := L) (fun i hi => HF.out i (by rw [HL.out] at hi; exact hi)))
      clear HF
      by_cases hl1 : 1 ≤ k
      · by_cases hl2 : k ≤ 16
        · have g1 : decide ((k : Int) < 1) = false := by simp; omega
          have g2 : decide (16 < (k : Int)) = false := by simp; omega
          go_wp2_with fail
          go_loopw [5, 6] (fun s i wr => ∃ q : Nat, q ≤ k ∧ i = .int .i64 q ∧ s = .float .f32 (sumF (L.take q)) ∧ Hid (∀ j, j < q → posF (L.getD j 0) = true) ∧ Hid (Below w.heap.size w wr)) (fun _ i _ => k - (intOf i).toNat)
          case atStart => exact ⟨0, by omega, rfl, rfl, Lib.hid (fun j hj => by omega), B⟩
          case round =>
            obtain ⟨q, hq, rfl, rfl, HP, B3⟩ := hrel
            by_cases hlq : q < k
            · have hdk : decide ((q : Int) < (k : Int)) = true := by simp; omega
              obtain ⟨b1, o1, rfl, hb1, hc1⟩ := H1.out.2 (by omega)
              have p1 := (B3.out.cell (p := ⟨b1, o1 + q, none⟩) hb1).trans (hc1 q hlq)
              clear hb1 hc1
              have hS := sumF_succ L q (by rw [HL.out]; exact hlq)
              have hsm := sm_take L q (by rw [HL.out]; omega) HP.out
              have hfx := all_at HA.out q (by rw [HL.out]; exact hlq)
              obtain ⟨x, hx⟩ : ∃ x, x = L.getD q 0 := ⟨_, rfl⟩
              rw [← hx] at p1 hS hfx
              cases hz : ltz x
              · obtain ⟨s1, _⟩ := addS_any (sumF (L.take q)) x hsm hfx hz
                have h1 := fun w => run_float_arith (P := Try.prog) w .add 73 .f32 (sumF (L.take q)) x (addS (sumF (L.take q)) x) s1
                have hz' : (FloatKind.f32.format.order x 0 == some .lt) = false := hz
                have HP2 : Hid (∀ j, j < q + 1 → posF (L.getD j 0) = true) := Lib.hid (fun j hj => by
                  rcases Nat.lt_or_ge j q with h | h
                  · exact HP.out j h
                  · obtain rfl : j = q := by omega
                    rw [← hx]; unfold posF; rw [hfx, hz]; rfl)
                have HS := Lib.hid hS
                clear hS hsm s1 hz hx
                generalize sumF (L.take q) = s at *
                generalize addS s x = r at *
                go_wp2_with fail
                exact ⟨⟨q + 1, by omega, by go_num, by rw [HS.out], HP2, B3⟩, by simp [intOf]; omega⟩
              · obtain ⟨e1, e2⟩ := nw_neg L HA.out (all_no q (by rw [HL.out]; exact hlq) (by rw [← hx]; unfold posF; rw [hz]; simp))
                have hz' : (FloatKind.f32.format.order x 0 == some .lt) = true := hz
                have E1 := Lib.hid e1
                have E2 := Lib.hid e2
                clear hS hsm hx e1 e2 hz
                generalize sumF (L.take q) = s at *
                go_wp2_with fail
                go_ret2
                exact ⟨_, by rw [E1.out]; rfl, by rw [E2.out]; exact OwnF.zero _ _, B3.out⟩
            · obtain rfl : q = k := by omega
              have hP := all_yes (f := posF) (L := L) (fun i hi => HP.out i (by rw [HL.out] at hi; exact hi))
              have hw0 := wt_yes L HA.out (by rw [HL.out]; exact hl1) (by rw [HL.out]; exact hl2) hP
              have e0 := sumF_all L q (by rw [HL.out]; exact Nat.le_refl _)
              have HNL := Lib.hid (nw_lim L hw0)
              have HNS := Lib.hid (nw_state L hw0)
              have HNY := Lib.hid (nw_yes L hw0)
              have HND := Lib.hid (nw_div L hw0)
              clear hP hw0 HP B
              rw [e0]
              clear e0
              generalize sumF L = S at *
              go_wp2_with fail
              refine (fine_any S _).mono ?_
              rintro e w1 ⟨rfl, d, rfl⟩
              have B4 := Lib.hid (below_drewN B3.out d)
              clear B3
              generalize wr.drewN d = w1 at *
              cases hf : fin S
              · obtain ⟨e1, e2⟩ := HNL.out hf
                have E1 := Lib.hid e1
                have E2 := Lib.hid e2
                clear e1 e2
                go_wp2
                go_ret2
                exact ⟨_, by rw [E1.out]; rfl, by rw [E2.out]; exact OwnF.zero _ _, B4.out⟩
              · cases hz : eqz S
                · obtain ⟨e1, e2⟩ := HNY.out hf hz
                  have hz' : (FloatKind.f32.format.order S 0 == some .eq) = false := hz
                  have HND2 := Lib.hid (HND.out hf hz)
                  have E1 := Lib.hid e1
                  have E2 := Lib.hid e2
                  clear e1 e2 hz
                  go_wp2_with fail
                  go_loopw [7, 8] (fun v i wr => ∃ k : Nat, k ≤ q ∧ i = .int .i64 k ∧ Hid (OwnF w.heap.size v ((L.take k).map (fun x => divS x S)) wr) ∧ Hid (Below w.heap.size w wr)) (fun _ i _ => q - (intOf i).toNat)
                  case atStart => exact ⟨0, by omega, rfl, Lib.hid (OwnF.mono (OwnF.empty _ _ (Nat.le_refl _)) B4.out.size), Lib.hid (B4.out.alloc B4.out.size _)⟩
                  case round =>
                    obtain ⟨k, hk, rfl, O, B5⟩ := hrel
                    by_cases hlt : k < q
                    · have hdk : decide ((k : Int) < (q : Int)) = true := by simp; omega
                      obtain ⟨b1, o1, rfl, hb1, hc1⟩ := H1.out.2 (by omega)
                      have p1 := (B5.out.cell (p := ⟨b1, o1 + k, none⟩) hb1).trans (hc1 k hlt)
                      have HX := Lib.hid (map_take_succF (fun x => divS x S) L k (by rw [HL.out]; exact hlt))
                      have HZ : Hid (((L.take k).map (fun x => divS x S)).length ≤ 1048576) := Lib.hid (by rw [List.length_map, List.length_take]; omega)
                      have hdv := (HND2.out k (by rw [HL.out]; exact hlt)).1
                      clear hb1 hc1
                      generalize L.getD k 0 = x at *
                      generalize hM : (L.take k).map (fun x => divS x S) = M at *
                      have h1 := fun w => run_float_arith (P := Try.prog) w .quo 73 .f32 x S (divS x S) hdv
                      have HX2 : Hid (M ++ [divS x S] = (L.take (k + 1)).map (fun x => divS x S)) := HX
                      clear hdv hM HX
                      obtain ⟨y, hy⟩ : ∃ y, y = divS x S := ⟨_, rfl⟩
                      rw [← hy] at h1 HX2
                      clear hy
                      go_wp2_with (at_builtin; refine wpList_pushF rfl (.tmp 60) (.tmp 67) rfl w.heap.size _ M y rfl rfl O.out HZ.out B5.out.size ?_)
                      intro v' w2 O2 B2
                      have O3 := Lib.hid (O2.one HX2.out)
                      have B3 := Lib.hid (B5.out.trans B2)
                      clear O2 B2
                      go_wp2
                      exact ⟨⟨k + 1, by omega, by go_num, O3, B3⟩, by simp [intOf]; omega⟩
                    · obtain rfl : k = q := by omega
                      have O3 := O.out
                      rw [List.take_of_length_le (by rw [HL.out]; exact Nat.le_refl _)] at O3
                      have O4 := Lib.hid O3
                      clear O3
                      go_wp2
                      go_ret2
                      exact ⟨_, by rw [E1.out]; rfl, by rw [E2.out]; exact O4.out, B5.out⟩
                · obtain ⟨e1, e2⟩ := HNS.out hf hz
                  have hz' : (FloatKind.f32.format.order S 0 == some .eq) = true := hz
                  have E1 := Lib.hid e1
                  have E2 := Lib.hid e2
                  clear e1 e2 hz
                  go_wp2_with fail
                  go_ret2
                  exact ⟨_, by rw [E1.out]; rfl, by rw [E2.out]; exact OwnF.zero _ _, B4.out⟩
        · have g1 : decide ((k : Int) < 1) = false := by simp; omega
          have g2 : decide (16 < (k : Int)) = true := by simp; omega
          obtain ⟨e1, e2⟩ := nw_len L HA.out (by rw [HL.out]; omega)
          have E1 := Lib.hid e1
          have E2 := Lib.hid e2
          clear e1 e2
          go_wp2_with fail
          go_ret2
          exact ⟨_, by rw [E1.out]; rfl, by rw [E2.out]; exact OwnF.zero _ _, B.out⟩
      · have g1 : decide ((k : Int) < 1) = true := by simp; omega
        obtain ⟨e1, e2⟩ := nw_len L HA.out (by rw [HL.out]; omega)
        have E1 := Lib.hid e1
        have E2 := Lib.hid e2
        clear e1 e2
        go_wp2_with fail
        go_ret2
        exact ⟨_, by rw [E1.out]; rfl, by rw [E2.out]; exact OwnF.zero _ _, B.out⟩
end Go.Proofs.Ytjnbbhallihpaaa
