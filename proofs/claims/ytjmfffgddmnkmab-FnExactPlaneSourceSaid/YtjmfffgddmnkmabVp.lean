/- What program and model answer of plane waves for a list of slopes, and the program's answer. Condition: as many lists as a law lets in. -/
import Derived.Test.YtjmfffgddmnkmabImplW
import Derived.Test.YtjmfffgddmnkmabVa
import Derived.Test.YtjmfffgddmnkmabVs
import Derived.Lib.Hide
import Derived.Deep.Draws
import Derived.Deep.RegionHeld3
import Derived.Deep.RegionLaw
import Derived.Deep.CutBlock
import Derived.Deep.DeepCutAuto
namespace Go.Proofs.Ytjmfffgddmnkmab
open Go Go.RowKit

/-- the plane wave of one list -/
def pwL (n : Int) (L : List Int) : Array Value := pw n (L.getD 0 0) (L.getD 1 0)
def okRow (L : List Int) : Bool := L.length == 2 && within (L.getD 0 0) && within (L.getD 1 0)
def okAll (n : Int) (Ls : List (List Int)) : Bool := side n && decide (1 ≤ Ls.length) && decide (Ls.length ≤ 16) && Ls.all okRow
/-- the waves and the code -/
def psR (n : Int) (Ls : List (List Int)) : List (Array Value) := if okAll n Ls = true then Ls.map (pwL n) else []
def psC (n : Int) (Ls : List (List Int)) : Int := if okAll n Ls = true then 0 else 2
/-- what is asked of program and model: waves and a code, in memory of their own -/
def Planes (f : FuncId) (n : Int) (Ls : List (List Int)) (R : List (Array Value)) (c : Int) : Prop :=
  ∀ a cap w, CameS a Ls.length Ls w → Calls Try.prog f #[.int .i64 n, .slice a Ls.length cap] w fun e w' => ∃ r, e = .returned (.tuple #[r, .int .i64 c]) ∧ OwnV w.heap.size r R.length (flatW R) w' ∧ Below w.heap.size w w'

theorem ps_no {n : Int} {Ls : List (List Int)} (h : okAll n Ls = false) : psR n Ls = [] ∧ psC n Ls = 2 := by
  unfold psR psC
  rw [h]
  exact ⟨rfl, rfl⟩
theorem ps_yes {n : Int} {Ls : List (List Int)} (h : okAll n Ls = true) : psR n Ls = Ls.map (pwL n) ∧ psC n Ls = 0 := by
  unfold psR psC
  rw [h]
  exact ⟨rfl, rfl⟩
theorem ok_bad {n : Int} {Ls : List (List Int)} (k : Nat) (hk : k < Ls.length) (h : side n = false ∨ okRow (Ls.getD k []) = false) : okAll n Ls = false := by
  cases ho : okAll n Ls
  · rfl
  · unfold okAll at ho
    simp only [Bool.and_eq_true] at ho
    obtain ⟨⟨⟨h1, _⟩, _⟩, h4⟩ := ho
    rcases h with h | h
    · rw [h] at h1; cases h1
    · rw [List.all_eq_true] at h4
      have := h4 (Ls.getD k []) (by rw [List.getD_eq_getElem?_getD, List.getElem?_eq_getElem hk]; exact List.getElem_mem _)
      rw [h] at this
      cases this
theorem ok_len {n : Int} {Ls : List (List Int)} (h : ¬ (1 ≤ Ls.length ∧ Ls.length ≤ 16)) : okAll n Ls = false := by
  cases ho : okAll n Ls
  · rfl
  · unfold okAll at ho
    simp only [Bool.and_eq_true, decide_eq_true_eq] at ho
    exact absurd ⟨ho.1.1.2, ho.1.2⟩ h
theorem ok_good {n : Int} {Ls : List (List Int)} (h1 : 1 ≤ Ls.length) (h2 : Ls.length ≤ 16) (hs : side n = true) (hr : ∀ k, k < Ls.length → okRow (Ls.getD k []) = true) : okAll n Ls = true := by
  unfold okAll
  simp only [Bool.and_eq_true, decide_eq_true_eq]
  refine ⟨⟨⟨hs, h1⟩, h2⟩, ?_⟩
  rw [List.all_eq_true]
  intro L hL
  obtain ⟨k, hk, he⟩ := List.mem_iff_getElem.1 hL
  have := hr k hk
  rw [List.getD_eq_getElem?_getD, List.getElem?_eq_getElem hk, Option.getD_some, he] at this
  exact this
theorem okRow_yes {L : List Int} (h : okRow L = true) : L.length = 2 ∧ within (L.getD 0 0) = true ∧ within (L.getD 1 0) = true := by
  unfold okRow at h
  simp only [Bool.and_eq_true, beq_iff_eq] at h
  exact ⟨h.1.1, h.1.2, h.2⟩

/-- the first k waves, then zeros -/
def preP (n : Int) (Ls : List (List Int)) (k : Nat) : List (Array Value) := (Ls.take k).map (pwL n) ++ List.replicate (Ls.length - k) (pic 0 zc)
theorem pwL_size (n : Int) (L : List Int) : (pwL n L).size = 65 := pw_size _ _ _
theorem preP_ws (n : Int) (Ls : List (List Int)) (k : Nat) : Ws (preP n Ls k) := by
  intro P hP
  unfold preP at hP
  rcases List.mem_append.1 hP with h | h
  · obtain ⟨L, _, rfl⟩ := List.mem_map.1 h
    exact pwL_size n L
  · rw [(List.mem_replicate.1 h).2]
    exact pic_size 0 zc zc_size
theorem preP_len (n : Int) (Ls : List (List Int)) (k : Nat) (hk : k ≤ Ls.length) : (preP n Ls k).length = Ls.length := by
  unfold preP
  rw [List.length_append, List.length_map, List.length_take, List.length_replicate]
  omega
theorem preP_zero (n : Int) (Ls : List (List Int)) : preP n Ls 0 = List.replicate Ls.length (pic 0 zc) := by simp [preP]
theorem preP_all (n : Int) (Ls : List (List Int)) : preP n Ls Ls.length = Ls.map (pwL n) := by simp [preP]
theorem preP_set (n : Int) (Ls : List (List Int)) (k : Nat) (hk : k < Ls.length) : (preP n Ls k).set k (pwL n (Ls.getD k [])) = preP n Ls (k + 1) := by
  unfold preP
  obtain ⟨m, hm⟩ : ∃ m, Ls.length - k = m + 1 := ⟨Ls.length - k - 1, by omega⟩
  have hm2 : Ls.length - (k + 1) = m := by omega
  have hl : ((Ls.take k).map (pwL n)).length = k := by rw [List.length_map, List.length_take]; omega
  rw [hm, hm2, List.replicate_succ, List.set_append_right _ _ (by omega), hl, Nat.sub_self, List.set_cons_zero, List.take_add_one, List.getD_eq_getElem?_getD, List.getElem?_eq_getElem hk, List.map_append, List.append_assoc]
  rfl
theorem map_ws (n : Int) (Ls : List (List Int)) : Ws (Ls.map (pwL n)) := by
  intro P hP
  obtain ⟨L, _, rfl⟩ := List.mem_map.1 hP
  exact pwL_size n L

theorem isBetween_gen (a k b : Int) (w : World) : Calls Try.prog 102 #[.int .i64 a, .int .i64 k, .int .i64 b] w fun e w' => e = .returned (.bool (decide (k ≥ a) && decide (k ≤ b))) ∧ w = w' := by
  by_cases h1 : k ≥ a
  · have e1 : decide (k ≥ a) = true := by simpa using h1
    go_enter Try.func102, Try.ntmps102
    go_wp2
    go_ret
    exact ⟨by rw [e1, Bool.true_and]; rfl, rfl⟩
  · have e1 : decide (k ≥ a) = false := by simpa using h1
    go_enter Try.func102, Try.ntmps102
    go_wp2
    go_ret
    exact ⟨rfl, rfl⟩

/-- the program's plane wave, in one word -/
def plA (n u v : Int) : Array Value := if side n = true ∧ within u = true ∧ within v = true then pw n u v else pic 0 zc
def plC (n u v : Int) : Int := if side n = true ∧ within u = true ∧ within v = true then 0 else 2
theorem implPl (n u v : Int) (w : World) : Calls Try.prog 116 #[.int .i64 n, .int .i64 u, .int .i64 v] w fun e w' => e = .returned (.tuple #[.agg (plA n u v), .int .i64 (plC n u v)]) ∧ Below w.heap.size w w' := by
  unfold plA plC
  cases hn : side n
  · rw [if_neg (by simp), if_neg (by simp)]
    exact impl_pw_no1 n u v hn w
  · cases hu : within u
    · rw [if_neg (by simp), if_neg (by simp)]
      exact impl_pw_no2 n u v hn hu w
    · cases hv : within v
      · rw [if_neg (by simp), if_neg (by simp)]
        exact impl_pw_no3 n u v hn hu hv w
      · rw [if_pos (by simp), if_pos (by simp)]
        exact impl_pw_yes n u v hn hu hv w
theorem plA_size (n u v : Int) : (plA n u v).size = 65 := by
  unfold plA
  split
  · exact pw_size _ _ _
  · exact pic_size 0 zc zc_size
theorem plA_one (n u v : Int) : (plA n u v).all (·.oneCell') = true := by
  unfold plA
  split
  · exact pw_one _ _ _
  · exact zc_one 0
theorem plC_two (n u v : Int) : (plC n u v = 0 ∧ side n = true ∧ within u = true ∧ within v = true ∧ plA n u v = pw n u v) ∨ (plC n u v = 2 ∧ ¬ (side n = true ∧ within u = true ∧ within v = true)) := by
  unfold plA plC
  by_cases h : side n = true ∧ within u = true ∧ within v = true
  · rw [if_pos h, if_pos h]; exact .inl ⟨rfl, h.1, h.2.1, h.2.2, rfl⟩
  · rw [if_neg h]; exact .inr ⟨rfl, h⟩

set_option maxRecDepth 100000 in
theorem implPs_len (n : Int) (Ls : List (List Int)) (h : ¬ (1 ≤ Ls.length ∧ Ls.length ≤ 16)) (hn : Ls.length ≤ 1048576) : Planes 56 n Ls (psR n Ls) (psC n Ls) := by
  intro a cap w hC
  obtain ⟨e1, e2⟩ := ps_no (ok_len (n := n) h)
  rw [e1, e2]
  have hb : (decide ((Ls.length : Int) ≥ 1) && decide ((Ls.length : Int) ≤ 16)) = false := by
    cases hd : (decide ((Ls.length : Int) ≥ 1) && decide ((Ls.length : Int) ≤ 16))
    · rfl
    · simp only [Bool.and_eq_true, decide_eq_true_eq] at hd
      exact absurd ⟨by omega, by omega⟩ h
  have HB := Lib.hid hb
  clear hb hC e1 e2 h
  generalize Ls.length = m at *
  go_enter Try.func56, Try.ntmps56
  go_wp2_with fail
  refine (isBetween_gen _ _ _ _).mono ?_
  rw [HB.out]
  rintro e w1 ⟨rfl, rfl⟩
  go_wp2_with fail
  go_ret2
  exact ⟨_, rfl, OwnV.zero _ _, Below.refl _ _⟩

set_option maxRecDepth 100000 in
set_option maxHeartbeats 1600000 in
theorem implPs_yes (n : Int) (Ls : List (List Int)) (h1 : 1 ≤ Ls.length) (h16 : Ls.length ≤ 16) : Planes 56 n Ls (psR n Ls) (psC n Ls) := by
  intro a cap w hC
  obtain ⟨i0, hi, hz0, hz1, hz2⟩ := info_parts infoV
  have hb : (decide ((Ls.length : Int) ≥ 1) && decide ((Ls.length : Int) ≤ 16)) = true := by
    simp only [Bool.and_eq_true, decide_eq_true_eq]
    omega
  have HB := Lib.hid hb
  have HC := Lib.hid (fun i hi => CameS.at hC i hi)
  obtain ⟨m, hm⟩ : ∃ m, m = Ls.length := ⟨_, rfl⟩
  rw [← hm] at HB HC h1 h16
  have HM := Lib.hid hm
  have HMD := Lib.hid (madeV m)
  have HP0 := Lib.hid (preP_zero n Ls)
  have HPS := Lib.hid (pic_size 0 zc zc_size)
  have hz37 := (zero_of_info info37').1
  have HIZ : Hid ((Try.prog.info? 30).map (·.size) = some 65) := Lib.hid (zero_of_info info37').2
  rw [show Ls.length = m from hm.symm]
  generalize hZ : pic 0 zc = Z at *
  have HZ := Lib.hid hZ
  clear hb hC hm hZ
  go_enter Try.func56, Try.ntmps56
  go_wp2_with fail
  refine (isBetween_gen _ _ _ _).mono ?_
  rw [HB.out]
  rintro e w1 ⟨rfl, rfl⟩
  go_wp2_with (first | fail | (refine wpList_make_full _ rfl _ _ 68 rfl w.heap.size 30 i0 (.agg Z) 65 Try.underlying68 hi hz0 hz1 .i64 .i64 m m m rfl rfl rfl rfl ?b2 ?b3 (Nat.le_refl _) ?_))
  case b2 => rw [hz2]; omega
  case b3 => unfold maxLen; omega
  intro w1 hown hgrow
  have O1 : Hid (OwnV w.heap.size (.slice (some ⟨w.heap.size, 0, none⟩) m m) m (flatW (preP n Ls 0)) w1) := by
    refine Lib.hid ?_
    rw [HP0.out, ← HM.out, ← HMD.out]
    exact hown
  have B1 : Hid (Below w.heap.size w w1) := Lib.hid ((Below.refl _ _).grown hgrow (Nat.le_refl _) (fun k hk => by cases hk))
  clear hown hgrow hi hz0 hz1 hz2 HMD HP0
  go_wp2_with fail
  go_loopw [20] (fun i wr => ∃ k : Nat, k ≤ m ∧ i = .int .i64 k ∧ Hid ((∀ j, j < k → okRow (Ls.getD j []) = true) ∧ (0 < k → side n = true)) ∧ Hid (OwnV w.heap.size (.slice (some ⟨w.heap.size, 0, none⟩) m m) m (flatW (preP n Ls k)) wr) ∧ Hid (Below w.heap.size w wr)) (fun i _ => m - (intOf i).toNat)
  case atStart => exact ⟨0, by omega, rfl, Lib.hid ⟨fun j hj => absurd hj (by omega), fun h => absurd h (by omega)⟩, O1, B1⟩
  case round =>
    obtain ⟨k, hk, rfl, HK, O, B⟩ := hrel
    by_cases hlt : k < m
    · have hdk : decide ((k : Int) < (m : Int)) = true := by simp; omega
      obtain ⟨b, off, ai, ci, rfl, hb, hc, hr⟩ := HC.out k hlt
      have hc1 := (B.out.cell (p := ⟨b, off + k, none⟩) hb).trans hc
      have HR := Lib.hid (hr.below B.out (Nat.le_refl _))
      clear hb hc hr
      obtain ⟨q, hq⟩ : ∃ q, q = (Ls.getD k []).length := ⟨_, rfl⟩
      rw [← hq] at hc1
      have HQ := Lib.hid hq
      clear hq
      by_cases h2 : q = 2
      · subst h2
        have HR2 := HR.out
        rw [← HQ.out] at HR2
        obtain ⟨b2, o2, rfl, hb2, hc2⟩ := HR2.2 (by omega)
        have c0 := hc2 0 (by omega)
        have c1 := hc2 1 (by omega)
        clear hc2 HR2
        have HX : Hid (∃ x, (Ls.getD k []).getD 0 0 = x) := Lib.hid ⟨_, rfl⟩
        obtain ⟨x, hx⟩ := HX.out
        have HY : Hid (∃ x, (Ls.getD k []).getD 1 0 = x) := Lib.hid ⟨_, rfl⟩
        obtain ⟨y, hy⟩ := HY.out
        rw [hx] at c0
        rw [hy] at c1
        have HX := Lib.hid hx
        have HY := Lib.hid hy
        clear hx hy
        have CC : Hid (∀ w', Below wr.heap.size wr w' → w'.cell? ⟨b2, o2, none⟩ = some (.int .i64 x) ∧ w'.cell? ⟨b2, o2 + 1, none⟩ = some (.int .i64 y)) :=
          Lib.hid (fun w' h => ⟨(h.cell (p := ⟨b2, o2, none⟩) hb2).trans c0, (h.cell (p := ⟨b2, o2 + 1, none⟩) hb2).trans c1⟩)
        have HP := Lib.hid (implPl n x y)
        have HA1 := Lib.hid (plA_one n x y)
        have HAS := Lib.hid (plA_size n x y)
        have HTW := Lib.hid (plC_two n x y)
        generalize plA n x y = P at *
        generalize plC n x y = cc at *
        have HPI : Hid ((Try.prog.info? 30).map (·.size) = some P.size) := Lib.hid (by rw [HAS.out]; exact HIZ.out)
        have HZP : Hid (Z.size = P.size) := Lib.hid (by rw [HAS.out]; exact HPS.out)
        clear c0 c1 hb2
        go_upto_region 9 with fail
        go_cut [9, 10] (fun p c wx => c = .int .i64 cc ∧ ∃ g, p = .pointer (some ⟨g, 0, none⟩) ∧ Hid (wx.heap[g]? = some (.cells P 30 (0, 0))) ∧ Hid (Below wr.heap.size wr wx))
        case first =>
          refine wp_region_noPanic ?_
          refine wp_region_held_drew (S := Below wr.heap.size wr) (by kernel_rfl) (below_drewN (Below.refl _ _) 1) (fun h1 => ?_)
          refine wpAnyH_take (i := 0) (v := .int .i64 n) rfl (by kernel_rfl) (by kernel_rfl) (by kernel_rfl) (fun _ _ _ h => h) (Or.inl ⟨by rfl, fun w' hSw => by have c0 := (CC.out w' hSw).1; have c1 := (CC.out w' hSw).2; go_simp⟩) h1 ?_
          simp only [Act.put]
          refine wpAnyH_take (i := 1) (v := .slice (some ⟨b2, o2, none⟩) 2 ci) rfl (by kernel_rfl) (by kernel_rfl) (by kernel_rfl) (fun _ _ _ h => h) (Or.inl ⟨by rfl, fun w' hSw => by have c0 := (CC.out w' hSw).1; have c1 := (CC.out w' hSw).2; go_simp⟩) h1 ?_
          simp only [Act.put]
          refine wpAnyH_take (i := 2) (v := .pointer (some ⟨b2, o2, none⟩)) rfl (by kernel_rfl) (by kernel_rfl) (by kernel_rfl) (fun _ _ _ h => h) (Or.inl ⟨by rfl, fun w' hSw => by have c0 := (CC.out w' hSw).1; have c1 := (CC.out w' hSw).2; go_simp⟩) h1 ?_
          simp only [Act.put]
          refine wpAnyH_take (i := 3) (v := .int .i64 x) rfl (by kernel_rfl) (by kernel_rfl) (by kernel_rfl) (fun _ _ _ h => h) (Or.inl ⟨by rfl, fun w' hSw => by have c0 := (CC.out w' hSw).1; have c1 := (CC.out w' hSw).2; go_simp⟩) h1 ?_
          simp only [Act.put]
          refine wpAnyH_take (i := 4) (v := .slice (some ⟨b2, o2, none⟩) 2 ci) rfl (by kernel_rfl) (by kernel_rfl) (by kernel_rfl) (fun _ _ _ h => h) (Or.inl ⟨by rfl, fun w' hSw => by have c0 := (CC.out w' hSw).1; have c1 := (CC.out w' hSw).2; go_simp⟩) h1 ?_
          simp only [Act.put]
          refine wpAnyH_take (i := 5) (v := .pointer (some ⟨b2, o2 + 1, none⟩)) rfl (by kernel_rfl) (by kernel_rfl) (by kernel_rfl) (fun _ _ _ h => h) (Or.inl ⟨by rfl, fun w' hSw => by have c0 := (CC.out w' hSw).1; have c1 := (CC.out w' hSw).2; go_simp⟩) h1 ?_
          simp only [Act.put]
          refine wpAnyH_take (i := 6) (v := .int .i64 y) rfl (by kernel_rfl) (by kernel_rfl) (by kernel_rfl) (fun _ _ _ h => h) (Or.inl ⟨by rfl, fun w' hSw => by have c0 := (CC.out w' hSw).1; have c1 := (CC.out w' hSw).2; go_simp⟩) h1 ?_
          simp only [Act.put]
          generalize wr.drew = v at *
          have hv := h1.size
          refine wpAnyH_ready (rs := [7, 11]) (by kernel_rfl) (by simp) ?_
          refine AllReadyH.cons (o := _) rfl (fun K hK => ?_) (AllReadyH.cons (o := _) rfl (fun K hK => ?_) AllReadyH.nil)
          · rw [if_pos (by rfl)]
            go_simp
            refine (HP.out _).mono ?_
            rintro e w3 ⟨rfl, k3⟩
            refine hK.out _ _ (h1.trans (k3.mono hv)) (fun hA => ?_)
            clear hK K
            refine wpAnyH_take (i := 8) (v := .tuple #[.agg P, .int .i64 cc]) rfl (by kernel_rfl) (by kernel_rfl) (by kernel_rfl) (fun _ _ _ h => h) (Or.inl ⟨by rfl, fun w' hSw => by go_simp⟩) hA ?_
            refine (show wpAnyH _ _ _ _ _ _ _ (Act.put _ (some 28) _) _ from ?_)
            simp only [Act.put]
            refine wpAnyH_take (i := 9) (v := .agg P) rfl (by kernel_rfl) (by kernel_rfl) (by kernel_rfl) (fun _ _ _ h => h) (Or.inl ⟨by rfl, fun w' hSw => by go_simp⟩) hA ?_
            refine (show wpAnyH _ _ _ _ _ _ _ (Act.put _ (some 37) _) _ from ?_)
            simp only [Act.put]
            refine wpAnyH_take (i := 10) (v := .int .i64 cc) rfl (by kernel_rfl) (by kernel_rfl) (by kernel_rfl) (fun _ _ _ h => h) (Or.inl ⟨by rfl, fun w' hSw => by go_simp⟩) hA ?_
            refine (show wpAnyH _ _ _ _ _ _ _ (Act.put _ (some 38) _) _ from ?_)
            simp only [Act.put]
            refine wpAnyH_ready (rs := [11]) (by kernel_rfl) (by simp) ?_
            refine AllReadyH.cons (o := _) rfl (fun K hK => ?_) AllReadyH.nil
            rw [if_pos (by rfl)]
            go_simp
            refine hK.out _ _ (hA.alloc hA.size _) (fun hB => ?_)
            clear hK K
            try simp only [Act.put]
            refine wpAnyH_ready (rs := [12]) (by kernel_rfl) (by simp) ?_
            refine AllReadyH.cons (o := _) rfl (fun K hK => ?_) AllReadyH.nil
            rw [if_pos (by rfl)]
            refine wp_store_row 30 (.tmp 9) (.tmp 37) rfl w3.heap.size P rfl rfl 30 Z (h1_0 _ _) HPI.out HZP.out HA1.out ?_
            refine hK.out _ _ (below_setRow hB hA.size _) (fun hC2 => ?_)
            clear hK K
            refine wpAnyH_take (i := 13) (v := .int .i64 cc) rfl (by kernel_rfl) (by kernel_rfl) (by kernel_rfl) (fun _ _ _ h => h) (Or.inl ⟨by rfl, fun w' hSw => by go_simp⟩) hC2 ?_
            refine (show wpAnyH _ _ _ _ _ _ _ (Act.put _ (some 10) _) _ from ?_)
            simp only [Act.put]
            refine wpAnyH_done (by kernel_rfl) (NoPanic.normal ?_) _
            go_wp2_with fail
            go_meet
            exact ⟨rfl, w3.heap.size, rfl, Lib.hid (setRow_heap _ _ _ _ _ _ (h1_0 _ _)), Lib.hid hC2⟩
          · rw [if_pos (by rfl)]
            go_simp
            refine hK.out _ _ (h1.alloc hv _) (fun hA => ?_)
            clear hK K
            try simp only [Act.put]
            have G := Lib.hid (h1_0 v (.cells Z 30))
            have hs : v.heap.size < (v.alloc (.cells Z 30)).heap.size := by rw [size_al]; omega
            generalize v.alloc (.cells Z 30) = v1 at *
            refine wpAnyH_ready (rs := [7]) (by kernel_rfl) (by simp) ?_
            refine AllReadyH.cons (o := _) rfl (fun K hK => ?_) AllReadyH.nil
            rw [if_pos (by rfl)]
            go_simp
            refine (HP.out _).mono ?_
            rintro e w3 ⟨rfl, k3⟩
            refine hK.out _ _ (hA.trans (k3.mono hA.size)) (fun hB => ?_)
            clear hK K
            have G3 : Hid (w3.heap[v.heap.size]? = some (.cells Z 30 (0, 0))) := Lib.hid ((k3.block _ hs).trans G.out)
            refine wpAnyH_take (i := 8) (v := .tuple #[.agg P, .int .i64 cc]) rfl (by kernel_rfl) (by kernel_rfl) (by kernel_rfl) (fun _ _ _ h => h) (Or.inl ⟨by rfl, fun w' hSw => by go_simp⟩) hB ?_
            refine (show wpAnyH _ _ _ _ _ _ _ (Act.put _ (some 28) _) _ from ?_)
            simp only [Act.put]
            refine wpAnyH_take (i := 9) (v := .agg P) rfl (by kernel_rfl) (by kernel_rfl) (by kernel_rfl) (fun _ _ _ h => h) (Or.inl ⟨by rfl, fun w' hSw => by go_simp⟩) hB ?_
            refine (show wpAnyH _ _ _ _ _ _ _ (Act.put _ (some 37) _) _ from ?_)
            simp only [Act.put]
            refine wpAnyH_take (i := 10) (v := .int .i64 cc) rfl (by kernel_rfl) (by kernel_rfl) (by kernel_rfl) (fun _ _ _ h => h) (Or.inl ⟨by rfl, fun w' hSw => by go_simp⟩) hB ?_
            refine (show wpAnyH _ _ _ _ _ _ _ (Act.put _ (some 38) _) _ from ?_)
            simp only [Act.put]
            refine wpAnyH_ready (rs := [12]) (by kernel_rfl) (by simp) ?_
            refine AllReadyH.cons (o := _) rfl (fun K hK => ?_) AllReadyH.nil
            rw [if_pos (by rfl)]
            refine wp_store_row 30 (.tmp 9) (.tmp 37) rfl v.heap.size P rfl rfl 30 Z G3.out HPI.out HZP.out HA1.out ?_
            refine hK.out _ _ (below_setRow hB hv _) (fun hC2 => ?_)
            clear hK K
            refine wpAnyH_take (i := 13) (v := .int .i64 cc) rfl (by kernel_rfl) (by kernel_rfl) (by kernel_rfl) (fun _ _ _ h => h) (Or.inl ⟨by rfl, fun w' hSw => by go_simp⟩) hC2 ?_
            refine (show wpAnyH _ _ _ _ _ _ _ (Act.put _ (some 10) _) _ from ?_)
            simp only [Act.put]
            refine wpAnyH_done (by kernel_rfl) (NoPanic.normal ?_) _
            go_wp2_with fail
            go_meet
            exact ⟨rfl, v.heap.size, rfl, Lib.hid (setRow_heap _ _ _ _ _ _ G3.out), Lib.hid hC2⟩
        case rest =>
          obtain ⟨rfl, g, rfl, G, BW⟩ := hcut
          have O2 : Hid (OwnV w.heap.size (.slice (some ⟨w.heap.size, 0, none⟩) m m) m (flatW (preP n Ls k)) wc) := Lib.hid (O.out.below BW.out (Nat.le_refl _))
          have B2 : Hid (Below w.heap.size w wc) := Lib.hid (B.out.trans (BW.out.mono B.out.size))
          clear CC BW
          rcases HTW.out with ⟨e0, hs, hu, hv, hP⟩ | ⟨e2, hno⟩
          · subst e0
            have HS1 := Lib.hid hs
            have HR1 : Hid (okRow (Ls.getD k []) = true) := Lib.hid (by
              unfold okRow
              rw [← HQ.out, HX.out, HY.out, hu, hv]
              rfl)
            have HPP : Hid (pwL n (Ls.getD k []) = P) := Lib.hid (by
              unfold pwL
              rw [HX.out, HY.out, hP])
            have hkl : k < Ls.length := by rw [← HM.out]; exact hlt
            have hPl := preP_len n Ls k (by omega)
            have T : Hid (wc.there w.heap.size (k * 65) P.size) := Lib.hid (fun j hj => by
              rw [HAS.out] at hj
              refine ⟨?_, O2.out.free _⟩
              rw [O2.out.cell _ (by omega), List.getElem?_eq_getElem (by rw [O2.out.len]; omega)]
              rfl)
            have O3 : Hid (OwnV w.heap.size (.slice (some ⟨w.heap.size, 0, none⟩) m m) m (flatW (preP n Ls (k + 1))) (wc.setCells w.heap.size (k * 65) P.toList)) := Lib.hid (by
              have := O2.out.storedMany P.toList (k * 65)
              rw [flatW_set _ (preP_ws n Ls k) k (by omega) P HAS.out, ← HPP.out, preP_set n Ls k hkl] at this
              rw [HPP.out] at this
              exact this)
            have B3 : Hid (Below w.heap.size w (wc.setCells w.heap.size (k * 65) P.toList)) := Lib.hid (Below.setCells (Nat.le_refl _) _ _ B2.out)
            clear hs hu hv hP hkl hPl
            go_wp2_with (first | fail | (refine wpList_load_row rfl 30 (.tmp 9) rfl g rfl 30 P (0, 0) _ G.out Try.underlying30 rfl HPI.out ?_) | (refine wpList_store_mid rfl 30 (.tmp 45) (.tmp 44) rfl w.heap.size (k * 65) P rfl rfl T.out HPI.out HA1.out ?_))
            exact ⟨⟨k + 1, by omega, by go_num, Lib.hid ⟨fun j hj => by
              rcases Nat.lt_or_ge j k with h | h
              · exact HK.out.1 j h
              · obtain rfl : j = k := by omega
                exact HR1.out, fun _ => HS1.out⟩, O3, B3⟩, by simp [intOf]; omega⟩
          · subst e2
            have HN : Hid (okAll n Ls = false) := Lib.hid (ok_bad k (by rw [← HM.out]; exact hlt) (by
              cases hs : side n
              · exact .inl rfl
              · right
                cases ho : okRow (Ls.getD k [])
                · rfl
                · obtain ⟨_, r1, r2⟩ := okRow_yes ho
                  rw [HX.out] at r1
                  rw [HY.out] at r2
                  exact absurd ⟨hs, r1, r2⟩ hno))
            clear hno
            go_wp2_with fail
            go_ret2
            rw [(ps_no HN.out).1, (ps_no HN.out).2]
            exact ⟨_, rfl, OwnV.zero _ _, B2.out⟩
      · have HN : Hid (okAll n Ls = false) := Lib.hid (ok_bad k (by rw [← HM.out]; exact hlt) (.inr (by
          cases ho : okRow (Ls.getD k [])
          · rfl
          · exact absurd (HQ.out.trans (okRow_yes ho).1) h2)))
        have hne : ((q : Int) != 2) = true := by simp; omega
        clear HR h2
        go_wp2_with fail
        go_ret2
        rw [(ps_no HN.out).1, (ps_no HN.out).2]
        exact ⟨_, rfl, OwnV.zero _ _, B.out⟩
    · obtain rfl : k = m := by omega
      have HN : Hid (okAll n Ls = true) := Lib.hid (ok_good (by rw [← HM.out]; exact h1) (by rw [← HM.out]; exact h16) (HK.out.2 (by omega)) (fun j hj => HK.out.1 j (by rw [HM.out]; exact hj)))
      have O3 : Hid (OwnV w.heap.size (.slice (some ⟨w.heap.size, 0, none⟩) k k) (Ls.map (pwL n)).length (flatW (Ls.map (pwL n))) wr) := Lib.hid (by
        have := O.out
        rw [HM.out, preP_all] at this
        rw [List.length_map, HM.out]
        exact this)
      go_wp2_with fail
      go_ret2
      rw [(ps_yes HN.out).1, (ps_yes HN.out).2]
      exact ⟨_, rfl, O3.out, B.out⟩

theorem implPs (n : Int) (Ls : List (List Int)) (hn : Ls.length ≤ 1048576) : Planes 56 n Ls (psR n Ls) (psC n Ls) := by
  by_cases h : 1 ≤ Ls.length ∧ Ls.length ≤ 16
  · exact implPs_yes n Ls h.1 h.2
  · exact implPs_len n Ls h hn

end Go.Proofs.Ytjmfffgddmnkmab
