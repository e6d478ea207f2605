/- The program's normed weights, whole: the list and the code. Condition: as many numbers as a law lets in. -/
import Derived.Test.YtjnbbhallihpaaaNy
namespace Go.Proofs.Ytjnbbhallihpaaa
open Go Go.RowKit

set_option maxRecDepth 100000 in
set_option maxHeartbeats 1600000 in
theorem implNw (L : List Nat) : ListsF 17 L (nwList L) (nwCode L) := by
  obtain ⟨i0, hi, hz0, hz1, hz2⟩ := info_parts infoF
  intro hn v w hO
  obtain ⟨a, cap, rfl, hC⟩ := hO.came
  have HCW := Lib.hid (checkWeights_any a L.length cap L w hC hn)
  have H1 := Lib.hid hC
  generalize hm : L.length = n at *
  have HL := Lib.hid hm
  clear hC hO hm
  have HI := Lib.hid hi
  have HI0 := Lib.hid hz0
  have HI1 := Lib.hid hz1
  have HI2 := Lib.hid hz2
  clear hi hz0 hz1 hz2
  by_cases hw : wtCode L = 0
  · have HW0 := Lib.hid hw
    obtain ⟨hA, hl1, hl2, hP⟩ := wt_zero hw
    have HP := Lib.hid hP
    rw [HL.out] at hl1 hl2
    rw [hw] at HCW
    clear hA hP hw
    go_enter Try.func17, Try.ntmps17
    go_wp2_with fail
    refine HCW.out.mono ?_
    rintro e w1 ⟨rfl, d, rfl⟩
    have B1 := Lib.hid (below_drewN (Below.refl w.heap.size w) d)
    generalize w.drewN d = w1 at *
    go_wp2_with fail
    go_loopw [5, 20] (fun s i wr => ∃ q : Nat, q ≤ n ∧ i = .int .i64 q ∧ s = .float .f32 (sumF (L.take q)) ∧ Hid (Below w.heap.size w wr)) (fun _ i _ => n - (intOf i).toNat)
    case atStart => exact ⟨0, by omega, rfl, rfl, B1⟩
    case round =>
      obtain ⟨q, hq, rfl, rfl, B3⟩ := hrel
      by_cases hlq : q < n
      · have hdk : decide ((q : Int) < (n : Int)) = true := by simp; omega
        obtain ⟨b1, o1, rfl, hb1, hc1⟩ := H1.out.2 (by omega)
        have p1 := (B3.out.cell (p := ⟨b1, o1 + q, none⟩) hb1).trans (hc1 q hlq)
        clear hb1 hc1
        have hS := sumF_succ L q (by rw [HL.out]; exact hlq)
        have hsm := (sumF_any L HP.out q).1
        have hfx := posF_yes (all_at HP.out q (by rw [HL.out]; exact hlq))
        obtain ⟨x, hx⟩ : ∃ x, x = L.getD q 0 := ⟨_, rfl⟩
        rw [← hx] at p1 hS hfx
        obtain ⟨s1, _⟩ := addS_any (sumF (L.take q)) x hsm hfx.1 hfx.2
        have h1 := fun w => run_float_arith (P := Try.prog) w .add 73 .f32 (sumF (L.take q)) x (addS (sumF (L.take q)) x) s1
        have HS := Lib.hid hS
        clear hS hsm s1 hfx hx
        generalize sumF (L.take q) = s at *
        generalize addS s x = r at *
        go_wp2_with fail
        exact ⟨⟨q + 1, by omega, by go_num, by rw [HS.out], B3⟩, by simp [intOf]; omega⟩
      · obtain rfl : q = n := by omega
        have e0 := sumF_all L q (by rw [HL.out]; exact Nat.le_refl _)
        have HNL := Lib.hid (nw_lim L HW0.out)
        have HNS := Lib.hid (nw_state L HW0.out)
        have HNY := Lib.hid (nw_yes L HW0.out)
        have HND := Lib.hid (nw_div L HW0.out)
        have HSM := Lib.hid (sumF_any L HP.out L.length).1
        rw [List.take_length] at HSM
        clear B1 HP HW0
        generalize wr = u1 at *
        rw [e0]
        clear e0
        generalize sumF L = S at *
        go_wp2_with (refine wpList_make_full _ rfl _ _ 32 rfl u1.heap.size 73 i0 (.float .f32 0) 1 Try.underlying32 HI.out HI0.out HI1.out .i64 .i64 q q q rfl rfl rfl rfl ?b2 ?b3 (Nat.le_refl _) ?_)
        case b2 => rw [HI2.out]; omega
        case b3 => unfold maxLen; omega
        intro w2 hown hgrow
        have O1 : Hid (OwnF u1.heap.size (.slice (some ⟨u1.heap.size, 0, none⟩) q q) (preF (L.map (fun x => divS x S)) q 0) w2) := by
          refine Lib.hid ?_
          have e : (madeCells #[Value.float .f32 0] q).toList = (preF (L.map (fun x => divS x S)) q 0).map (Value.float .f32) := by
            rw [toList_madeCells_one]
            simp [preF]
          rw [e] at hown
          unfold OwnF
          rw [pre_lenF _ q 0 (by rw [List.length_map]; exact HL.out) (Nat.zero_le _)]
          exact hown
        have B4 : Hid (Below u1.heap.size u1 w2) := Lib.hid ((Below.refl _ _).grown hgrow (Nat.le_refl _) (fun k hk => by cases hk))
        clear hown hgrow HI HI0 HI1 HI2
        cases hf : fin S
        · have hz : eqz S = false := by
            cases hz : eqz S
            · rfl
            · obtain ⟨s, hr⟩ := eqz_read S hz
              exfalso
              rcases HSM.out with h | rfl
              · rw [h.1] at hf; cases hf
              · revert hz; decide
          obtain ⟨e1, e2⟩ := HNL.out hf
          have E1 := Lib.hid e1
          have E2 := Lib.hid e2
          clear e1 e2
          have HQ := Lib.hid (fun x => quotientOf_lim x S hz hf)
          clear hz hf HNL HNS HNY HND HSM
          obtain ⟨b1, o1, rfl, hb1, hc1⟩ := H1.out.2 (by omega)
          have p1 : w2.cell? ⟨b1, o1, none⟩ = some (.float .f32 (L.getD 0 0)) := (B4.out.cell (p := ⟨b1, o1, none⟩) (Nat.lt_of_lt_of_le hb1 B3.out.size)).trans ((B3.out.cell (p := ⟨b1, o1, none⟩) hb1).trans (hc1 0 (by omega)))
          have hdk : decide ((0 : Int) < (q : Int)) = true := by simp; omega
          clear hb1 hc1
          generalize L.getD 0 0 = x at *
          go_wp2_with fail
          refine wp_loop_rounds 1 ?_
          rw [rounds_succ]
          go_wp2_with fail
          refine (HQ.out x _).mono ?_
          rintro e w3 ⟨rfl, d3, rfl⟩
          go_wp2_with fail
          go_ret2
          exact ⟨_, by rw [E1.out]; rfl, by rw [E2.out]; exact OwnF.zero _ _, below_drewN (B3.out.trans (B4.out.mono B3.out.size)) _⟩
        · cases hz : eqz S
          · obtain ⟨e1, e2⟩ := HNY.out hf hz
            have HND2 := Lib.hid (HND.out hf hz)
            have E1 := Lib.hid e1
            have E2 := Lib.hid e2
            have HQ := Lib.hid (fun x r => quotientOf_yes x S r hz hf)
            clear e1 e2 hz hf HNL HNS HNY HND HSM
            go_wp2_with fail
            go_loopw [33] (fun i wx => ∃ k : Nat, k ≤ q ∧ i = .int .i64 k ∧ Hid (OwnF u1.heap.size (.slice (some ⟨u1.heap.size, 0, none⟩) q q) (preF (L.map (fun x => divS x S)) q k) wx) ∧ Hid (Below u1.heap.size u1 wx)) (fun i _ => q - (intOf i).toNat)
            case atStart => exact ⟨0, by omega, rfl, O1, B4⟩
            case round =>
              obtain ⟨k, hk, rfl, O2, B5⟩ := hrel
              have HML : Hid ((L.map (fun x => divS x S)).length = q) := Lib.hid (by rw [List.length_map]; exact HL.out)
              by_cases hlt : k < q
              · have hdk : decide ((k : Int) < (q : Int)) = true := by simp; omega
                obtain ⟨b1, o1, rfl, hb1, hc1⟩ := H1.out.2 (by omega)
                have p1 := (B5.out.cell (p := ⟨b1, o1 + k, none⟩) (Nat.lt_of_lt_of_le hb1 B3.out.size)).trans ((B3.out.cell (p := ⟨b1, o1 + k, none⟩) hb1).trans (hc1 k hlt))
                obtain ⟨d1, d2⟩ := HND2.out k (by rw [HL.out]; exact hlt)
                have HQ2 := Lib.hid (HQ.out (L.getD k 0) (divS (L.getD k 0) S) d1 d2)
                have HG : Hid ((L.map (fun x => divS x S)).getD k 0 = divS (L.getD k 0) S) := Lib.hid (by
                  rw [List.getD_eq_getElem?_getD, List.getD_eq_getElem?_getD, List.getElem?_map, List.getElem?_eq_getElem (show k < L.length by rw [HL.out]; exact hlt)]; rfl)
                clear hb1 hc1 d1 d2
                generalize L.getD k 0 = x at *
                obtain ⟨y, hy⟩ : ∃ y, y = divS x S := ⟨_, rfl⟩
                rw [← hy] at HQ2 HG
                clear hy
                generalize L.map (fun x => divS x S) = M at *
                go_wp2_with fail
                refine (HQ2.out _).mono ?_
                rintro e w3 ⟨rfl, d3, rfl⟩
                have hl := pre_lenF M q k HML.out hk
                have o2 : OwnF u1.heap.size (.slice (some ⟨u1.heap.size, 0, none⟩) (preF M q k).length q) (preF M q k) (wr.drewN d3) := by
                  rw [hl]; exact OwnF.below O2.out (below_drewN (Below.refl _ _) d3) (Nat.le_refl _)
                have B6 := Lib.hid (below_drewN B5.out d3)
                clear B5 O2
                generalize wr.drewN d3 = w4 at *
                have f := o2.free k
                have c2 := o2.cell k (by omega)
                have O3 : Hid (OwnF u1.heap.size (.slice (some ⟨u1.heap.size, 0, none⟩) q q) (preF M q (k + 1)) (w4.setCell ⟨u1.heap.size, k, none⟩ (.float .f32 y))) := by
                  refine Lib.hid ?_
                  have := o2.stored k y
                  rw [← HG.out, pre_setF M q k HML.out hlt, hl] at this
                  rw [← HG.out]
                  exact this
                have B7 := Lib.hid (B6.out.setCell (p := ⟨u1.heap.size, k, none⟩) (Nat.le_refl _) (.float .f32 y))
                clear hl o2 B6
                generalize (preF M q k).getD k 0 = z at *
                go_wp2_with fail
                exact ⟨⟨k + 1, by omega, by go_num, O3, B7⟩, by simp [intOf]; omega⟩
              · obtain rfl : k = q := by omega
                have O3 := O2.out
                rw [pre_allF _ k HML.out] at O3
                have O4 := Lib.hid O3
                clear O3
                go_wp2_with fail
                go_ret2
                exact ⟨_, by rw [E1.out]; rfl, by rw [E2.out]; exact OwnF.mono O4.out B3.out.size, B3.out.trans (B5.out.mono B3.out.size)⟩
          · obtain ⟨e1, e2⟩ := HNS.out hf hz
            have E1 := Lib.hid e1
            have E2 := Lib.hid e2
            have HQ := Lib.hid (fun x => quotientOf_zero x S hz)
            clear e1 e2 hz hf HNL HNS HNY HND HSM
            obtain ⟨b1, o1, rfl, hb1, hc1⟩ := H1.out.2 (by omega)
            have p1 : w2.cell? ⟨b1, o1, none⟩ = some (.float .f32 (L.getD 0 0)) := (B4.out.cell (p := ⟨b1, o1, none⟩) (Nat.lt_of_lt_of_le hb1 B3.out.size)).trans ((B3.out.cell (p := ⟨b1, o1, none⟩) hb1).trans (hc1 0 (by omega)))
            have hdk : decide ((0 : Int) < (q : Int)) = true := by simp; omega
            clear hb1 hc1
            generalize L.getD 0 0 = x at *
            go_wp2_with fail
            refine wp_loop_rounds 1 ?_
            rw [rounds_succ]
            go_wp2_with fail
            refine (HQ.out x _).mono ?_
            rintro e w3 ⟨rfl, d3, rfl⟩
            go_wp2_with fail
            go_ret2
            exact ⟨_, by rw [E1.out]; rfl, by rw [E2.out]; exact OwnF.zero _ _, below_drewN (B3.out.trans (B4.out.mono B3.out.size)) _⟩
  · obtain ⟨c, hc⟩ : ∃ c, wtCode L = c := ⟨_, rfl⟩
    rw [hc] at hw HCW
    obtain ⟨e1, e2⟩ := nw_other L c hc hw
    have E1 := Lib.hid e1
    have E2 := Lib.hid e2
    have hcn : (c != 0) = true := by simpa using hw
    clear e1 e2 hc
    go_enter Try.func17, Try.ntmps17
    go_wp2_with fail
    refine HCW.out.mono ?_
    rintro e w1 ⟨rfl, d, rfl⟩
    go_wp2_with fail
    go_ret2
    exact ⟨_, by rw [E1.out]; rfl, by rw [E2.out]; exact OwnF.zero _ _, below_drewN (Below.refl _ _) _⟩
theorem nwList_len (L : List Nat) : (nwList L).length ≤ 1048576 := by
  unfold nwList
  split
  · rename_i h
    have : wtCode L = 0 := by
      by_cases h0 : wtCode L = 0
      · exact h0
      · obtain ⟨e1, _⟩ := nw_other L _ rfl h0
        omega
    obtain ⟨_, _, h2, _⟩ := wt_zero this
    rw [List.length_map]; omega
  · simp
end Go.Proofs.Ytjnbbhallihpaaa
