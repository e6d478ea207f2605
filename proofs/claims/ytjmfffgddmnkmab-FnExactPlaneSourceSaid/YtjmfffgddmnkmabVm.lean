/- The model's plane waves for a list of slopes. Condition: as many lists as a law lets in. -/
import Derived.Test.YtjmfffgddmnkmabVp
import Derived.Test.YtjmfffgddmnkmabSpecW
import Derived.Great.BuildSlice
namespace Go.Proofs.Ytjmfffgddmnkmab
open Go Go.RowKit

theorem run_pushV {ty : TypeId} (w : World) (B : Nat) (v : Value) (n : Nat) (xs : List Value) (P : Array Value) (g : Nat) (hg : w.heap[g]? = some (.cells P 30 (0, 0))) (hP : P.size = 65) (hP1 : P.all (·.oneCell') = true) (hO : OwnV B v n xs w) (hn : n ≤ 1048576) (hB : B ≤ w.heap.size) :
    ∃ v' w', (Builtin.append_ #[68, 68] ty #[v, .slice (some ⟨g, 0, none⟩) 1 1]).run Try.prog w = .ok v' w' ∧ OwnV B v' (n + 1) (xs ++ P.toList) w' ∧ Below B w w' := by
  obtain ⟨i0, hi, hz0, hz1, hz2⟩ := info_parts infoV
  have hnews : ∀ j u, P.toList[j]? = some u → w.cell? ((⟨g, 0, none⟩ : Addr).add j) = some u := by
    intro j u hj
    rw [Addr.add_mid, Nat.zero_add, cell_of_row _ _ _ _ _ _ hg]
    rw [Array.getElem?_toList] at hj
    exact hj
  have hone : ∀ u ∈ P.toList, u.oneCell' = true := fun u hu => (Array.all_eq_true_iff_forall_mem.1 hP1) u (by simpa using hu)
  obtain ⟨v', w', hr, hown, hgrow, _, _⟩ := run_append_own_at (P := Try.prog) w B 68 ty 30 i0 (.agg (pic 0 zc)) 65 520 Try.underlying68 hi hz0 hz1 hz2 (pic_size 0 zc zc_size) (by decide) v n xs hO ⟨g, 0, none⟩ 1 1 P.toList (by rw [Array.length_toList, hP]) hnews hone (by unfold maxLen; omega) (by omega) hB
  exact ⟨v', w', hr, hown, (Below.refl B w).grown hgrow hB (fun j hj => (World.ownsRow.lt hO j hj).1)⟩

theorem wp_pushV {o : Oper} {a : Act} {K : Act → World → Prop} {Q : Exit → Act → World → Prop} (w : World) (s x : Operand)
    (ho : o.op = .call { callee := .builtin .append, args := #[s, x], argTypes := #[68, 68] }) (B : Nat) (v : Value) (n : Nat) (xs : List Value) (P : Array Value) (g : Nat)
    (hs : a.eval s = v) (hx : a.eval x = .slice (some ⟨g, 0, none⟩) 1 1) (hg : w.heap[g]? = some (.cells P 30 (0, 0))) (hP : P.size = 65) (hP1 : P.all (·.oneCell') = true) (hO : OwnV B v n xs w) (hn : n ≤ 1048576) (hB : B ≤ w.heap.size)
    (h : ∀ v' w', OwnV B v' (n + 1) (xs ++ P.toList) w' → Below B w w' → K (a.put o.dst v') w') : o.wp Try.prog a w K Q := by
  obtain ⟨v', w', hr, h1, h2⟩ := run_pushV (ty := o.type) w B v n xs P g hg hP hP1 hO hn hB
  unfold Oper.wp execOp
  simp only [ho, resolve, invoke, builtin, Sem.run_bind, Sem.run_pure, Result.andThen_ok, List.map_toArray, List.map_cons, List.map_nil, hs, hx, hr]
  exact h v' w' h1 h2

/-- one wave as a new list of one -/
theorem fill_one_wave (P : Array Value) (hP : P.size = 65) (cells : Array Value) (hc : cells.size = 65) : Instr.fill (fun i => some (i * 65, 65)) cells [(0, Value.agg P)] = some P := by
  have := Great.fill_whole (s := 65) (by decide) [Value.agg P] cells (fun v hv => by
    obtain rfl := List.mem_singleton.1 hv
    exact hP) (by simp [hc])
  simp only [List.zipIdx_cons, List.zipIdx_nil, List.map_cons, List.map_nil, List.flatMap_cons, List.flatMap_nil, List.append_nil] at this
  rw [this]
  simp [Value.cells]
theorem wp_buildV {o : Oper} {a : Act} {w : World} {K : Act → World → Prop} {Q : Exit → Act → World → Prop} (x : Operand) (ho : o.op = .buildSlice 68 1 #[(0, x)]) (P : Array Value) (hP : P.size = 65) (hx : a.eval x = .agg P)
    (h : K (a.put o.dst (.slice (some ⟨w.heap.size, 0, none⟩) 1 1)) (w.alloc (.cells P 30))) : o.wp Try.prog a w K Q := by
  obtain ⟨i0, hi, hz0, hz1, hz2⟩ := info_parts infoV
  refine wp_buildSlice 68 30 1 _ ho P i0 (.agg (pic 0 zc)) Try.underlying68 hi hz0 (by rw [hz1]; decide) (by rw [hz1]; decide) ?_ h
  rw [hz1]
  simp only [List.map_toArray, List.map_cons, List.map_nil, hx]
  exact fill_one_wave P hP _ (by simp)

theorem OwnV.empty (B : Nat) (w : World) (hB : B ≤ w.heap.size) : OwnV B (.slice (some ⟨w.heap.size, 0, none⟩) 0 0) 0 [] (w.alloc (.cells #[] 30)) :=
  ⟨rfl, .inr ⟨w.heap.size, 0, #[], rfl, hB, heap_alloc_new w _, by simp, by simp, rfl, rfl⟩⟩

set_option maxRecDepth 100000 in
set_option maxHeartbeats 800000 in
theorem specPs_out (n : Int) (Ls : List (List Int)) (h : ¬ (side n = true ∧ 1 ≤ Ls.length ∧ Ls.length ≤ 16)) (hn : Ls.length ≤ 1048576) : Planes 54 n Ls (psR n Ls) (psC n Ls) := by
  intro ad cap w hC
  have ho : okAll n Ls = false := by
    cases ho : okAll n Ls
    · rfl
    · unfold okAll at ho
      simp only [Bool.and_eq_true, decide_eq_true_eq] at ho
      exact absurd ⟨ho.1.1.1, ho.1.1.2, ho.1.2⟩ h
  rw [(ps_no ho).1, (ps_no ho).2]
  clear ho hC
  generalize Ls.length = m at *
  cases hs : side n
  · have HS := Lib.hid hs
    clear hs h
    go_enter Try.func54, Try.ntmps54
    go_wp2_with fail
    refine (l01Side_any n _).mono ?_
    rw [HS.out]
    rintro e w1 ⟨rfl, rfl⟩
    go_wp2_with fail
    go_ret2
    exact ⟨_, rfl, OwnV.zero _ _, Below.refl _ _⟩
  · have HS := Lib.hid hs
    by_cases h1 : 1 ≤ m
    · have d1 : decide ((m : Int) < 1) = false := by simp; omega
      have d2 : decide ((m : Int) > 16) = true := by
        simp
        rcases Nat.lt_or_ge 16 m with h2 | h2
        · omega
        · exact absurd ⟨hs, h1, h2⟩ h
      clear hs h h1
      go_enter Try.func54, Try.ntmps54
      go_wp2_with fail
      refine (l01Side_any n _).mono ?_
      rw [HS.out]
      rintro e w1 ⟨rfl, rfl⟩
      go_wp2_with fail
      go_ret2
      exact ⟨_, rfl, OwnV.zero _ _, Below.refl _ _⟩
    · have d1 : decide ((m : Int) < 1) = true := by simp; omega
      clear hs h h1
      go_enter Try.func54, Try.ntmps54
      go_wp2_with fail
      refine (l01Side_any n _).mono ?_
      rw [HS.out]
      rintro e w1 ⟨rfl, rfl⟩
      go_wp2_with fail
      go_ret2
      exact ⟨_, rfl, OwnV.zero _ _, Below.refl _ _⟩

theorem take_map (n : Int) (Ls : List (List Int)) (k : Nat) (hk : k < Ls.length) : (Ls.take k).map (pwL n) ++ [pwL n (Ls.getD k [])] = (Ls.take (k + 1)).map (pwL n) := by
  rw [List.take_add_one, List.getD_eq_getElem?_getD, List.getElem?_eq_getElem hk, List.map_append]
  rfl
theorem take_ws (n : Int) (Ls : List (List Int)) (k : Nat) : Ws ((Ls.take k).map (pwL n)) := map_ws n _

set_option maxRecDepth 100000 in
set_option maxHeartbeats 1600000 in
theorem specPs_yes (n : Int) (Ls : List (List Int)) (hs : side n = true) (h1 : 1 ≤ Ls.length) (h16 : Ls.length ≤ 16) : Planes 54 n Ls (psR n Ls) (psC n Ls) := by
  intro ad cap w hC
  have HC := Lib.hid (fun i hi => CameS.at hC i hi)
  have HS := Lib.hid hs
  obtain ⟨m, hm⟩ : ∃ m, m = Ls.length := ⟨_, rfl⟩
  rw [← hm] at HC h1 h16
  have HM := Lib.hid hm
  rw [show Ls.length = m from hm.symm]
  have d1 : decide ((m : Int) < 1) = false := by simp; omega
  have d2 : decide ((m : Int) > 16) = false := by simp; omega
  clear hm hC hs
  go_enter Try.func54, Try.ntmps54
  go_wp2_with fail
  refine (l01Side_any n _).mono ?_
  rw [HS.out]
  rintro e w1 ⟨rfl, rfl⟩
  go_wp2_with fail
  go_loopw [6] (fun i wr => ∃ k : Nat, k ≤ m ∧ i = .int .i64 k ∧ Hid (∀ j, j < k → okRow (Ls.getD j []) = true) ∧ wr = w) (fun i _ => m - (intOf i).toNat)
  case atStart => exact ⟨0, by omega, rfl, Lib.hid (fun j hj => absurd hj (by omega)), rfl⟩
  case round =>
    obtain ⟨k, hk, rfl, HK, hw⟩ := hrel
    obtain rfl : w = wr := hw.symm
    by_cases hlt : k < m
    · have hdk : decide ((k : Int) < (m : Int)) = true := by simp; omega
      have hkl : k < Ls.length := by rw [← HM.out]; exact hlt
      obtain ⟨b, off, ai, ci, rfl, hb, hc1, hr⟩ := HC.out k hlt
      obtain ⟨q, hq⟩ : ∃ q, q = (Ls.getD k []).length := ⟨_, rfl⟩
      rw [← hq] at hc1 hr
      have HQ := Lib.hid hq
      clear hq hb
      by_cases h2 : q = 2
      · subst h2
        obtain ⟨b2, o2, rfl, hb2, hc2⟩ := hr.2 (by omega)
        have c0 := hc2 0 (by omega)
        have c1 := hc2 1 (by omega)
        clear hc2 hr hb2
        obtain ⟨x, hx⟩ : ∃ x, (Ls.getD k []).getD 0 0 = x := ⟨_, rfl⟩
        obtain ⟨y, hy⟩ : ∃ x, (Ls.getD k []).getD 1 0 = x := ⟨_, rfl⟩
        rw [hx] at c0
        rw [hy] at c1
        have HX := Lib.hid hx
        have HY := Lib.hid hy
        clear hx hy
        rw [Nat.add_zero] at c0
        cases hu : within x
        · have HN : Hid (okAll n Ls = false) := Lib.hid (ok_bad k hkl (.inr (by unfold okRow; rw [HX.out, hu, Bool.and_false, Bool.false_and])))
          have HU : Hid (∀ w, Calls Try.prog 63 #[.int .i64 x, .int .i64 (-64), .int .i64 64] w fun e w' => e = .returned (.bool false) ∧ w = w') := Lib.hid (fun w => by rw [← hu]; exact l01In_any x w)
          clear hu hkl
          go_wp2_with fail
          refine (HU.out _).mono ?_
          rintro e w1 ⟨rfl, rfl⟩
          go_wp2_with fail
          go_ret2
          rw [(ps_no HN.out).1, (ps_no HN.out).2]
          exact ⟨_, rfl, OwnV.zero _ _, Below.refl _ _⟩
        · have HU : Hid (∀ w, Calls Try.prog 63 #[.int .i64 x, .int .i64 (-64), .int .i64 64] w fun e w' => e = .returned (.bool true) ∧ w = w') := Lib.hid (fun w => by rw [← hu]; exact l01In_any x w)
          cases hv : within y
          · have HN : Hid (okAll n Ls = false) := Lib.hid (ok_bad k hkl (.inr (by unfold okRow; rw [HY.out, hv, Bool.and_false])))
            have HV : Hid (∀ w, Calls Try.prog 63 #[.int .i64 y, .int .i64 (-64), .int .i64 64] w fun e w' => e = .returned (.bool false) ∧ w = w') := Lib.hid (fun w => by rw [← hv]; exact l01In_any y w)
            clear hu hv hkl
            go_wp2_with fail
            refine (HU.out _).mono ?_
            rintro e w1 ⟨rfl, rfl⟩
            go_wp2_with fail
            refine (HV.out _).mono ?_
            rintro e w1 ⟨rfl, rfl⟩
            go_wp2_with fail
            go_ret2
            rw [(ps_no HN.out).1, (ps_no HN.out).2]
            exact ⟨_, rfl, OwnV.zero _ _, Below.refl _ _⟩
          · have HR1 : Hid (okRow (Ls.getD k []) = true) := Lib.hid (by
              unfold okRow
              rw [← HQ.out, HX.out, HY.out, hu, hv]
              rfl)
            have HV : Hid (∀ w, Calls Try.prog 63 #[.int .i64 y, .int .i64 (-64), .int .i64 64] w fun e w' => e = .returned (.bool true) ∧ w = w') := Lib.hid (fun w => by rw [← hv]; exact l01In_any y w)
            clear hu hv hkl
            go_wp2_with fail
            refine (HU.out _).mono ?_
            rintro e w1 ⟨rfl, rfl⟩
            go_wp2_with fail
            refine (HV.out _).mono ?_
            rintro e w1 ⟨rfl, rfl⟩
            go_wp2_with fail
            exact ⟨⟨k + 1, by omega, by go_num, Lib.hid (fun j hj => by
              rcases Nat.lt_or_ge j k with h | h
              · exact HK.out j h
              · obtain rfl : j = k := by omega
                exact HR1.out), by trivial⟩, by simp [intOf]; omega⟩
      · have HN : Hid (okAll n Ls = false) := Lib.hid (ok_bad k hkl (.inr (by
          cases ho : okRow (Ls.getD k [])
          · rfl
          · exact absurd (HQ.out.trans (okRow_yes ho).1) h2)))
        have hne : ((q : Int) != 2) = true := by simp; omega
        clear hr h2 hkl
        go_wp2_with fail
        go_ret2
        rw [(ps_no HN.out).1, (ps_no HN.out).2]
        exact ⟨_, rfl, OwnV.zero _ _, Below.refl _ _⟩
    · obtain rfl : k = m := by omega
      have HOK := Lib.hid HK.out
      have HN : Hid (okAll n Ls = true) := Lib.hid (ok_good (by rw [← HM.out]; exact h1) (by rw [← HM.out]; exact h16) HS.out (fun j hj => HK.out j (by rw [HM.out]; exact hj)))
      clear HK hlt hk
      go_wp2_with fail
      go_loopw [8, 7] (fun i p wv => ∃ q : Nat, q ≤ k ∧ i = .int .i64 q ∧ Hid (OwnV w.heap.size p q (flatW ((Ls.take q).map (pwL n))) wv) ∧ Hid (Below w.heap.size w wv)) (fun i _ _ => k - (intOf i).toNat)
      case atStart => exact ⟨0, by omega, rfl, Lib.hid (OwnV.empty _ _ (Nat.le_refl _)), Lib.hid ((Below.refl _ _).alloc (Nat.le_refl _) _)⟩
      case round =>
        obtain ⟨q, hq, rfl, O, B⟩ := hrel
        obtain ⟨ad2, cp2, e0, _⟩ := O.out.came
        subst e0
        by_cases hlt : q < k
        · have hdk : decide ((q : Int) < (k : Int)) = true := by simp; omega
          have hqq : IntKind.i64.wrap ((q : Int) + 1) = ((q + 1 : Nat) : Int) := by rw [← Int.natCast_succ]; exact IntWalk.i64_in _ (by omega)
          obtain ⟨b, off, ai, ci, rfl, hb, hc1, hr⟩ := HC.out q hlt
          obtain ⟨e2, hu, hv⟩ := okRow_yes (HOK.out q hlt)
          rw [e2] at hc1 hr
          obtain ⟨b2, o2, rfl, hb2, hc2⟩ := hr.2 (by omega)
          have c0 := hc2 0 (by omega)
          have c1 := hc2 1 (by omega)
          rw [Nat.add_zero] at c0
          have CC : Hid (∀ w', Below w.heap.size w w' → w'.cell? ⟨b, off + q, none⟩ = some (.slice (some ⟨b2, o2, none⟩) 2 ci) ∧ w'.cell? ⟨b2, o2, none⟩ = some (.int .i64 ((Ls.getD q []).getD 0 0)) ∧ w'.cell? ⟨b2, o2 + 1, none⟩ = some (.int .i64 ((Ls.getD q []).getD 1 0))) :=
            Lib.hid (fun w' h => ⟨(h.cell (p := ⟨b, off + q, none⟩) hb).trans hc1, (h.cell (p := ⟨b2, o2, none⟩) hb2).trans c0, (h.cell (p := ⟨b2, o2 + 1, none⟩) hb2).trans c1⟩)
          have HP := Lib.hid (plane_any n _ _ HS.out hu hv)
          have HTM := Lib.hid (take_map n Ls q (by rw [← HM.out]; exact hlt))
          have HPL : Hid (pwL n (Ls.getD q []) = pw n ((Ls.getD q []).getD 0 0) ((Ls.getD q []).getD 1 0)) := Lib.hid rfl
          have HA1 := Lib.hid (pw_one n ((Ls.getD q []).getD 0 0) ((Ls.getD q []).getD 1 0))
          have HAS := Lib.hid (pw_size n ((Ls.getD q []).getD 0 0) ((Ls.getD q []).getD 1 0))
          have HQ1 : Hid (q ≤ 1048576) := Lib.hid (by omega)
          clear hb hc1 hr hb2 hc2 c0 c1 e2 hu hv
          generalize (Ls.getD q []).getD 0 0 = x at *
          generalize (Ls.getD q []).getD 1 0 = y at *
          generalize pw n x y = P at *
          go_upto_region 12 with fail
          clear hdk
          refine wp_region_noPanic ?_
          refine wp_region_held_drew (S := Below w.heap.size w) (by kernel_rfl) (below_drewN B.out 1) (fun h1 => ?_)
          refine wpAnyH_take (i := 0) (v := .slice ad2 q cp2) rfl (by kernel_rfl) (by kernel_rfl) (by kernel_rfl) (fun _ _ _ h => h) (Or.inl ⟨by rfl, fun w' hSw => by have c0 := (CC.out w' hSw).1; have c1 := (CC.out w' hSw).2.1; have c2 := (CC.out w' hSw).2.2; go_simp⟩) h1 ?_
          simp only [Act.put]
          refine wpAnyH_take (i := 1) (v := .int .i64 n) rfl (by kernel_rfl) (by kernel_rfl) (by kernel_rfl) (fun _ _ _ h => h) (Or.inl ⟨by rfl, fun w' hSw => by have c0 := (CC.out w' hSw).1; have c1 := (CC.out w' hSw).2.1; have c2 := (CC.out w' hSw).2.2; go_simp⟩) h1 ?_
          simp only [Act.put]
          refine wpAnyH_take (i := 2) (v := .slice (some ⟨b, off, none⟩) k cap) rfl (by kernel_rfl) (by kernel_rfl) (by kernel_rfl) (fun _ _ _ h => h) (Or.inl ⟨by rfl, fun w' hSw => by have c0 := (CC.out w' hSw).1; have c1 := (CC.out w' hSw).2.1; have c2 := (CC.out w' hSw).2.2; go_simp⟩) h1 ?_
          simp only [Act.put]
          refine wpAnyH_take (i := 3) (v := .int .i64 q) rfl (by kernel_rfl) (by kernel_rfl) (by kernel_rfl) (fun _ _ _ h => h) (Or.inl ⟨by rfl, fun w' hSw => by have c0 := (CC.out w' hSw).1; have c1 := (CC.out w' hSw).2.1; have c2 := (CC.out w' hSw).2.2; go_simp⟩) h1 ?_
          simp only [Act.put]
          refine wpAnyH_take (i := 4) (v := .pointer (some ⟨b, off + q, none⟩)) rfl (by kernel_rfl) (by kernel_rfl) (by kernel_rfl) (fun _ _ _ h => h) (Or.inl ⟨by rfl, fun w' hSw => by have c0 := (CC.out w' hSw).1; have c1 := (CC.out w' hSw).2.1; have c2 := (CC.out w' hSw).2.2; go_simp⟩) h1 ?_
          simp only [Act.put]
          refine wpAnyH_take (i := 5) (v := .slice (some ⟨b2, o2, none⟩) 2 ci) rfl (by kernel_rfl) (by kernel_rfl) (by kernel_rfl) (fun _ _ _ h => h) (Or.inl ⟨by rfl, fun w' hSw => by have c0 := (CC.out w' hSw).1; have c1 := (CC.out w' hSw).2.1; have c2 := (CC.out w' hSw).2.2; go_simp⟩) h1 ?_
          simp only [Act.put]
          refine wpAnyH_take (i := 6) (v := .pointer (some ⟨b2, o2, none⟩)) rfl (by kernel_rfl) (by kernel_rfl) (by kernel_rfl) (fun _ _ _ h => h) (Or.inl ⟨by rfl, fun w' hSw => by have c0 := (CC.out w' hSw).1; have c1 := (CC.out w' hSw).2.1; have c2 := (CC.out w' hSw).2.2; go_simp⟩) h1 ?_
          simp only [Act.put]
          refine wpAnyH_take (i := 7) (v := .int .i64 x) rfl (by kernel_rfl) (by kernel_rfl) (by kernel_rfl) (fun _ _ _ h => h) (Or.inl ⟨by rfl, fun w' hSw => by have c0 := (CC.out w' hSw).1; have c1 := (CC.out w' hSw).2.1; have c2 := (CC.out w' hSw).2.2; go_simp⟩) h1 ?_
          simp only [Act.put]
          refine wpAnyH_take (i := 8) (v := .slice (some ⟨b, off, none⟩) k cap) rfl (by kernel_rfl) (by kernel_rfl) (by kernel_rfl) (fun _ _ _ h => h) (Or.inl ⟨by rfl, fun w' hSw => by have c0 := (CC.out w' hSw).1; have c1 := (CC.out w' hSw).2.1; have c2 := (CC.out w' hSw).2.2; go_simp⟩) h1 ?_
          simp only [Act.put]
          refine wpAnyH_take (i := 9) (v := .int .i64 q) rfl (by kernel_rfl) (by kernel_rfl) (by kernel_rfl) (fun _ _ _ h => h) (Or.inl ⟨by rfl, fun w' hSw => by have c0 := (CC.out w' hSw).1; have c1 := (CC.out w' hSw).2.1; have c2 := (CC.out w' hSw).2.2; go_simp⟩) h1 ?_
          simp only [Act.put]
          refine wpAnyH_take (i := 10) (v := .pointer (some ⟨b, off + q, none⟩)) rfl (by kernel_rfl) (by kernel_rfl) (by kernel_rfl) (fun _ _ _ h => h) (Or.inl ⟨by rfl, fun w' hSw => by have c0 := (CC.out w' hSw).1; have c1 := (CC.out w' hSw).2.1; have c2 := (CC.out w' hSw).2.2; go_simp⟩) h1 ?_
          simp only [Act.put]
          refine wpAnyH_take (i := 11) (v := .slice (some ⟨b2, o2, none⟩) 2 ci) rfl (by kernel_rfl) (by kernel_rfl) (by kernel_rfl) (fun _ _ _ h => h) (Or.inl ⟨by rfl, fun w' hSw => by have c0 := (CC.out w' hSw).1; have c1 := (CC.out w' hSw).2.1; have c2 := (CC.out w' hSw).2.2; go_simp⟩) h1 ?_
          simp only [Act.put]
          refine wpAnyH_take (i := 12) (v := .pointer (some ⟨b2, o2 + 1, none⟩)) rfl (by kernel_rfl) (by kernel_rfl) (by kernel_rfl) (fun _ _ _ h => h) (Or.inl ⟨by rfl, fun w' hSw => by have c0 := (CC.out w' hSw).1; have c1 := (CC.out w' hSw).2.1; have c2 := (CC.out w' hSw).2.2; go_simp⟩) h1 ?_
          simp only [Act.put]
          refine wpAnyH_take (i := 13) (v := .int .i64 y) rfl (by kernel_rfl) (by kernel_rfl) (by kernel_rfl) (fun _ _ _ h => h) (Or.inl ⟨by rfl, fun w' hSw => by have c0 := (CC.out w' hSw).1; have c1 := (CC.out w' hSw).2.1; have c2 := (CC.out w' hSw).2.2; go_simp⟩) h1 ?_
          simp only [Act.put]
          have O1 : Hid (OwnV w.heap.size (.slice ad2 q cp2) q (flatW ((Ls.take q).map (pwL n))) wr.drew) := O
          refine wpAnyH_ready (rs := [14]) (by kernel_rfl) (by simp) ?_
          refine AllReadyH.cons (o := _) rfl (fun K hK => ?_) AllReadyH.nil
          rw [if_pos (by rfl)]
          go_simp
          refine (HP.out _).mono ?_
          rintro e w3 ⟨rfl, k3⟩
          refine hK.out _ _ (h1.trans (k3.mono h1.size)) (fun hA => ?_)
          clear hK K
          have O3 := Lib.hid (O1.out.below k3 (Nat.le_refl _))
          refine wpAnyH_ready (rs := [15]) (by kernel_rfl) (by simp) ?_
          refine AllReadyH.cons (o := _) rfl (fun K hK => ?_) AllReadyH.nil
          rw [if_pos (by rfl)]
          refine wp_buildV (.tmp 75) rfl P HAS.out rfl ?_
          refine hK.out _ _ (hA.alloc hA.size _) (fun hB => ?_)
          clear hK K
          refine wpAnyH_ready (rs := [16]) (by kernel_rfl) (by simp) ?_
          refine AllReadyH.cons (o := _) rfl (fun K hK => ?_) AllReadyH.nil
          rw [if_pos (by rfl)]
          refine wp_pushV (w3.alloc (.cells P 30)) (.tmp 61) (.tmp 76) rfl w.heap.size (.slice ad2 q cp2) q _ P w3.heap.size rfl rfl (h1_0 _ _) HAS.out HA1.out (O3.out.alloc _) HQ1.out hB.size ?_
          intro v5 w5 o5 k5
          refine hK.out _ _ (hB.trans k5) (fun hC5 => ?_)
          clear hK K
          refine wpAnyH_take (i := 17) (v := v5) rfl (by kernel_rfl) (by kernel_rfl) (by kernel_rfl) (fun _ _ _ h => h) (Or.inl ⟨by rfl, fun w' hSw => by go_simp⟩) hC5 ?_
          refine (show wpAnyH _ _ _ _ _ _ _ (Act.put _ (some 7) _) _ from ?_)
          try simp only [Act.put]
          refine wpAnyH_done (by kernel_rfl) (NoPanic.normal ?_) _
          rw [← HPL.out, ← flatW_one, ← flatW_append, HTM.out] at o5
          have O5 := Lib.hid o5
          have B5 := Lib.hid hC5
          clear CC HP O B o5 k5 k3 hC5 hB hA h1 O3 O1
          go_wp2_with fail
          exact ⟨⟨q + 1, by omega, by go_num, O5, B5⟩, by simp [intOf]; omega⟩
        · obtain rfl : q = k := by omega
          have O3 : Hid (OwnV w.heap.size (.slice ad2 q cp2) (Ls.map (pwL n)).length (flatW (Ls.map (pwL n))) wr) := Lib.hid (by
            have := O.out
            rw [List.take_of_length_le (by rw [← HM.out]; exact Nat.le_refl _)] at this
            rw [List.length_map, ← HM.out]
            exact this)
          go_wp2_with fail
          go_ret2
          rw [(ps_yes HN.out).1, (ps_yes HN.out).2]
          exact ⟨_, rfl, O3.out, B.out⟩

theorem specPs (n : Int) (Ls : List (List Int)) (hn : Ls.length ≤ 1048576) : Planes 54 n Ls (psR n Ls) (psC n Ls) := by
  by_cases h : side n = true ∧ 1 ≤ Ls.length ∧ Ls.length ≤ 16
  · exact specPs_yes n Ls h.1 h.2.1 h.2.2
  · exact specPs_out n Ls h hn

end Go.Proofs.Ytjmfffgddmnkmab
