/- The model's halftones. Condition: 64 floats. -/
import Derived.Test.YtjmfffgddmnkmabDoorQm
import Derived.Test.YtjmfffgddmnkmabDoorM32
import Derived.Test.YtjmfffgddmnkmabDoorMx
import Derived.Test.YtjmfffgddmnkmabDoorPicI
import Derived.Deep.MidRow
import Derived.Deep.RegionHeld3
import Derived.Deep.CutBlock
import Derived.Deep.DeepCutAuto
namespace Go.Proofs.YtjmfffgddmnkmabDoor
open Go Go.RowKit

theorem infoF : (Tryd.prog.info? 31).map (fun i => (i.zero, i.size)) = some (some (.agg zero64), 64) := by kernel_rfl
/-- what stays while the model's rows are made -/
def Kh (w : World) (cs Z : Array Value) (w' : World) : Prop :=
  w'.heap[w.heap.size]? = some (.cells cs 36 (0, 0)) ∧ w'.heap[w.heap.size + 1]? = some (.cells Z 25 (0, 0)) ∧ Below w.heap.size w w'
theorem Kh.below {w : World} {cs Z : Array Value} {v v' : World} (h : Kh w cs Z v) (b : Below v.heap.size v v') : Kh w cs Z v' := by
  obtain ⟨h1, h2, h3⟩ := h
  exact ⟨by rw [b.block _ (Array.getElem?_eq_some_iff.1 h1).1]; exact h1, by rw [b.block _ (Array.getElem?_eq_some_iff.1 h2).1]; exact h2, h3.trans (b.mono h3.size)⟩
theorem Kh.setRow {w : World} {cs Z : Array Value} {v : World} (h : Kh w cs Z v) (q : Nat) (hq : w.heap.size + 1 < q) (D : Array Value) : Kh w cs Z (v.setRow q D) := by
  obtain ⟨h1, h2, h3⟩ := h
  exact ⟨by rw [heap_setRow_other _ _ _ _ (by omega)]; exact h1, by rw [heap_setRow_other _ _ _ _ (by omega)]; exact h2, below_setRow h3 (by omega) _⟩
theorem Kh.lt {w : World} {cs Z : Array Value} {v : World} (h : Kh w cs Z v) : w.heap.size + 1 < v.heap.size := (Array.getElem?_eq_some_iff.1 h.2.1).1

/-- the levels -/
def lev (zs : Array Value) (k : Nat) : Nat := bitsAt zs k
def HtEnd (ok : Bool) (A Z : Array Value) (e : Ending) : Prop := e = if ok then .returned (.tuple #[.agg A, .int .i64 0]) else .returned (.tuple #[.agg Z, .int .i64 3])
theorem htOk (s : Nat) (zs : Array Value) (t d : Nat) (hz : Floats zs) (h0 : shown s zs = true) (hf : fin t = true) (hg0 : gtz t = true) (hd : Ieee.single.mul 1073741824 t = some d) : HtOk s t d (lev zs) :=
  ⟨hf, hg0, hd, fun k hk => ⟨(shown_level s zs h0 k hk).1, (bitsAt_lt zs hz k hk).1⟩⟩
theorem row_stay (n t d : Nat) (L : Nat → Nat) (N k : Nat) (hn : n * n = N) (D : Array Value) (h : D.size = 64 ∧ ∀ j, k ≤ j → j < N → D[j]? = some (.float .f32 (sm n t d L k j))) (hr : (k + 1) % n = 0) (hb : N ≤ k + n) :
    D.size = 64 ∧ ∀ j, k + 1 ≤ j → j < N → D[j]? = some (.float .f32 (sm n t d L (k + 1) j)) :=
  ⟨h.1, fun j h1 h2 => by
    rw [sm_stay _ _ _ _ _ _ (by omega) (by omega) (fun _ => hr) (fun e => by
      rcases Nat.lt_or_ge n 2 with h3 | h3
      · have : n = 0 ∨ n = 1 := by omega
        rcases this with rfl | rfl <;> omega
      · exact h3)]
    exact h.2 j (by omega) h2⟩
theorem row_right (n t d : Nat) (L : Nat → Nat) (N k : Nat) (hN : N ≤ 64) (D : Array Value) (h : D.size = 64 ∧ ∀ j, k ≤ j → j < N → D[j]? = some (.float .f32 (sm n t d L k j))) (hb : N ≤ k + n) (hk : k + 1 < N) :
    (D.setIfInBounds (k + 1) (.float .f32 (sm n t d L (k + 1) (k + 1)))).size = 64 ∧ ∀ j, k + 1 ≤ j → j < N → (D.setIfInBounds (k + 1) (.float .f32 (sm n t d L (k + 1) (k + 1))))[j]? = some (.float .f32 (sm n t d L (k + 1) j)) :=
  ⟨by simp [h.1], fun j h1 h2 => by
    rw [Array.getElem?_setIfInBounds]
    by_cases e : k + 1 = j
    · subst e; rw [if_pos rfl, if_pos (by rw [h.1]; omega)]
    · rw [if_neg e, sm_stay _ _ _ _ _ _ (by omega) (by omega) (fun e2 => absurd e2.symm e) (fun e2 => absurd e2.symm e)]
      exact h.2 j (by omega) h2⟩
theorem row_below (n t d : Nat) (L : Nat → Nat) (N k : Nat) (hN : N ≤ 64) (D : Array Value) (h : D.size = 64 ∧ ∀ j, k ≤ j → j < N → D[j]? = some (.float .f32 (sm n t d L k j))) (hr : (k + 1) % n = 0) (hn : 2 ≤ n) (hk : k + n < N) :
    (D.setIfInBounds (k + n) (.float .f32 (sm n t d L (k + 1) (k + n)))).size = 64 ∧ ∀ j, k + 1 ≤ j → j < N → (D.setIfInBounds (k + n) (.float .f32 (sm n t d L (k + 1) (k + n))))[j]? = some (.float .f32 (sm n t d L (k + 1) j)) :=
  ⟨by simp [h.1], fun j h1 h2 => by
    rw [Array.getElem?_setIfInBounds]
    by_cases e : k + n = j
    · subst e; rw [if_pos rfl, if_pos (by rw [h.1]; omega)]
    · rw [if_neg e, sm_stay _ _ _ _ _ _ (by omega) (fun e2 => e e2.symm) (fun _ => hr) (fun _ => hn)]
      exact h.2 j (by omega) h2⟩
theorem row_both (n t d : Nat) (L : Nat → Nat) (N k : Nat) (hN : N ≤ 64) (D : Array Value) (h : D.size = 64 ∧ ∀ j, k ≤ j → j < N → D[j]? = some (.float .f32 (sm n t d L k j))) (hn : 2 ≤ n) (hk : k + n < N) :
    ((D.setIfInBounds (k + 1) (.float .f32 (sm n t d L (k + 1) (k + 1)))).setIfInBounds (k + n) (.float .f32 (sm n t d L (k + 1) (k + n)))).size = 64 ∧ ∀ j, k + 1 ≤ j → j < N → ((D.setIfInBounds (k + 1) (.float .f32 (sm n t d L (k + 1) (k + 1)))).setIfInBounds (k + n) (.float .f32 (sm n t d L (k + 1) (k + n))))[j]? = some (.float .f32 (sm n t d L (k + 1) j)) :=
  ⟨by simp [h.1], fun j h1 h2 => by
    rw [Array.getElem?_setIfInBounds]
    by_cases e : k + n = j
    · subst e; rw [if_pos rfl, if_pos (by simp [h.1]; omega)]
    · rw [if_neg e, Array.getElem?_setIfInBounds]
      by_cases e3 : k + 1 = j
      · subst e3; rw [if_pos rfl, if_pos (by rw [h.1]; omega)]
      · rw [if_neg e3, sm_stay _ _ _ _ _ _ (by omega) (fun e2 => e e2.symm) (fun e2 => absurd e2.symm e3) (fun e2 => absurd e2.symm e3)]
        exact h.2 j (by omega) h2⟩
theorem sm_self (n t d : Nat) (L : Nat → Nat) (k : Nat) : sm n t d L k k = sT n t d L false k := by unfold sm; rw [if_pos rfl]
theorem dot_fin (n t d : Nat) (L : Nat → Nat) (z : Bool) : ∀ k, (fin (dot n t d L z k).1 && fin (dot n t d L z k).2) = true := fun _ => mark_fin _

set_option maxRecDepth 100000 in
set_option maxHeartbeats 4000000 in
theorem specHt_yes (s : Nat) (zs : Array Value) (t : Nat) (hz : Floats zs) (h0 : shown s zs = true) (hf : fin t = true) (hl : leZ t = false) (w : World)
    (hs : side s = true) (hg0 : gtz t = true) (d : Nat) (hd : Ieee.single.mul 1073741824 t = some d) : Calls Tryd.prog 14 #[.agg (pic s zs), .float .f32 t] w fun e w' => HtEnd (okT s t d (lev zs) false (s * s)) (pic s (gf (dot s t d (lev zs) false) (s * s))) (pic 0 zc) e ∧ Below w.heap.size w w' := by
  have HH := Lib.hid (htOk s zs t d hz h0 hf hg0 hd)
  have HLV : Hid (∀ k, k < 64 → zs[k]? = some (.float .f32 (lev zs k))) := Lib.hid fun k hk => (bitsAt_lt zs hz k hk).2
  have HFW : Hid (FinW s (pic s (gf (dot s t d (lev zs) false) (s * s)))) := Lib.hid (gf_fin s _ (dot_fin s t d (lev zs) false) (s * s))
  have HEE : Hid (pic s zc = pic s (gf (dot s t d (lev zs) false) 0)) := Lib.hid (by rw [gf_zero])
  have hs8 : 1 ≤ s ∧ s ≤ 8 := by rcases side_nat s hs with rfl | rfl | rfl | rfl <;> omega
  have hss := sq_le s hs
  have hw0 : IntKind.i64.wrap ((s : Int) * (s : Int)) = ((s * s : Nat) : Int) := by rw [← Int.natCast_mul]; exact IntWalk.i64_in _ (by omega)
  have HMD : Hid (floatBits .mul .f32 1073741824 t = some d) := Lib.hid hd
  have hZsz : Hid (zs.size = 64) := Lib.hid hz.1
  have HZ1 := Lib.hid (zc_one 0)
  have hz37 := (zero_of_info info37').1
  have hzF := (zero_of_info infoF).1
  have HSF := Lib.hid (zero_of_info infoF).2
  have HS37 := Lib.hid (zero_of_info info37').2
  have HZ37 : Hid ((pic 0 zc).size = 65) := Lib.hid (pic_size 0 zc zc_size)
  have HE37 : Hid ((pic s zc).size = 65) := Lib.hid (pic_size s zc zc_size)
  have HE1 : Hid ((pic s zc).all (·.oneCell') = true) := Lib.hid (zc_one s)
  have HEI : Hid ((Tryd.prog.info? 25).map (·.size) = some (pic s zc).size) := Lib.hid (by rw [HE37.out]; exact HS37.out)
  have HZE : Hid ((pic 0 zc).size = (pic s zc).size) := Lib.hid (by rw [HZ37.out, HE37.out])
  have HE := Lib.hid (empty_any s)
  have HFI : Hid ((Tryd.prog.info? 31).map (·.size) = some zs.size) := Lib.hid (by rw [hz.1]; exact HSF.out)
  have HFL : Hid ((Tryd.prog.info? 31).map (·.size) = some zs.toList.length) := Lib.hid (by rw [Array.length_toList, hz.1]; exact HSF.out)
  have HFZ : Hid (zero64.size = zs.size) := Lib.hid (by rw [hz.1]; simp [zero64])
  have HF1 := Lib.hid (floats_one zs hz)
  have hne := pic_ne
  have HS := Lib.hid (size32 s zs hz)
  have hc := shown_any s zs hz
  rw [h0] at hc
  have HC := Lib.hid hc
  have HP0 := Lib.hid (pic_zero s zs)
  have HPP := Lib.hid (pic_succ s zs)
  have hlt' : (FloatKind.f32.format.order t 0 == some .lt || FloatKind.f32.format.order t 0 == some .eq) = false := hl
  generalize pic s zs = cs at *
  generalize pic s zc = E at *
  generalize pic 0 zc = Z at *
  generalize zero64 = Z64 at *
  clear h0 hc hl hz hs hg0 hd
  generalize lev zs = L at *
  generalize hN : s * s = N at *
  have HN := Lib.hid hN
  clear hN
  go_enter Tryd.func14, Tryd.ntmps14
  go_wp2_with (first | fail | (refine wpList_load_row rfl 36 (.tmp 2) rfl w.heap.size rfl 36 cs (0, 0) _ (h2_0 _ _ _) Tryd.underlying36 rfl HS.out ?_))
  refine (HC.out _).mono ?_
  rintro e w1 ⟨rfl, b1⟩
  have K1 : Hid (Kh w cs Z w1) := Lib.hid ((show Kh w cs Z _ from ⟨h2_0 _ _ _, h2_1 _ _ _, below_al2 _ _ _⟩).below b1)
  clear b1 HC
  go_wp2_with fail
  refine (fine_any _ _).mono ?_
  rw [hf]
  rintro e w' ⟨rfl, n', rfl⟩
  have K2 : Hid (Kh w cs Z (w1.drewN n')) := Lib.hid (K1.out.below (below_drewN (Below.refl _ _) _))
  clear K1
  generalize w1.drewN n' = v at *
  go_upto_region 5 with fail
  have CC : Hid (∀ w', Kh w cs Z w' → w'.cell? ⟨w.heap.size, 0, none⟩ = some (.int .i64 s)) := Lib.hid fun w' h => by rw [cell_of_row _ _ _ _ _ _ h.1]; exact HP0.out
  have RR : Hid (∀ w', Kh w cs Z w' → w'.rangeAt w.heap.size 1 zs.toList) := Lib.hid fun w' h => by
    intro j u hj
    rw [cell_of_row _ _ _ _ _ _ h.1, Nat.add_comm, HPP.out]
    simpa using hj
  go_cut [6, 7, 8] (fun i p q wx => i = .int .i64 s ∧ ∃ q1 q2, p = .pointer (some ⟨q1, 0, none⟩) ∧ q = .pointer (some ⟨q2, 0, none⟩) ∧ Hid (wx.heap[q1]? = some (.cells E 25 (0, 0))) ∧ Hid (wx.heap[q2]? = some (.cells zs 31 (0, 0))) ∧ q1 ≠ q2 ∧ w.heap.size + 1 < q1 ∧ w.heap.size + 1 < q2 ∧ Hid (Kh w cs Z wx))
  case first =>
    refine wp_region_noPanic ?_
    refine wp_region_held_drew (S := Kh w cs Z) (by kernel_rfl) (K2.out.below (below_drewN (Below.refl _ _) 1)) (fun h1 => ?_)
    refine wpAnyH_take (i := 0) (v := .pointer (some ⟨w.heap.size, 0, none⟩)) rfl (by kernel_rfl) (by kernel_rfl) (by kernel_rfl) (fun _ _ _ h => h) (Or.inl ⟨by rfl, fun w' hSw => by have c0 := CC.out w' hSw; go_simp⟩) h1 ?_
    simp only [Act.put]
    refine wpAnyH_take (i := 1) (v := .int .i64 s) rfl (by kernel_rfl) (by kernel_rfl) (by kernel_rfl) (fun _ _ _ h => h) (Or.inl ⟨by rfl, fun w' hSw => by have c0 := CC.out w' hSw; go_simp⟩) h1 ?_
    simp only [Act.put]
    refine wpAnyH_take (i := 2) (v := .pointer (some ⟨w.heap.size, 0, none⟩)) rfl (by kernel_rfl) (by kernel_rfl) (by kernel_rfl) (fun _ _ _ h => h) (Or.inl ⟨by rfl, fun w' hSw => by have c0 := CC.out w' hSw; go_simp⟩) h1 ?_
    simp only [Act.put]
    refine wpAnyH_take (i := 3) (v := .int .i64 s) rfl (by kernel_rfl) (by kernel_rfl) (by kernel_rfl) (fun _ _ _ h => h) (Or.inl ⟨by rfl, fun w' hSw => by have c0 := CC.out w' hSw; go_simp⟩) h1 ?_
    simp only [Act.put]
    refine wpAnyH_take (i := 5) (v := .pointer (some ⟨w.heap.size, 1, none⟩)) rfl (by kernel_rfl) (by kernel_rfl) (by kernel_rfl) (fun _ _ _ h => h) (Or.inl ⟨by rfl, fun w' hSw => by have c0 := CC.out w' hSw; go_simp⟩) h1 ?_
    simp only [Act.put]
    refine wpAnyH_take (i := 6) rfl (by kernel_rfl) (by kernel_rfl) (by kernel_rfl) (fun _ _ _ h => h) (yieldsIf_load_mid rfl 31 (.tmp 30) rfl w.heap.size 1 rfl zs.toList _ RR.out Tryd.underlying31 rfl HFL.out) h1 ?_
    simp only [Act.put]
    generalize v.drew = v at *
    have hv := h1
    refine wpAnyH_ready (rs := [4, 7, 8]) (by kernel_rfl) (by simp) ?_
    refine AllReadyH.cons (o := _) rfl (fun K hK => ?_) (AllReadyH.cons (o := _) rfl (fun K hK => ?_) (AllReadyH.cons (o := _) rfl (fun K hK => ?_) AllReadyH.nil))
    · rw [if_pos (by rfl)]
      go_simp
      refine (HE.out _).mono ?_
      rintro e w' ⟨rfl, rfl⟩
      refine hK.out _ _ (h1.below ((Below.refl _ _).alloc (Nat.le_refl _) _)) (fun hH1 => ?_)
      clear hK K
      try simp only [Act.put]
      refine wpAnyH_ready (rs := [7, 8]) (by kernel_rfl) (by simp) ?_
      refine AllReadyH.cons (o := _) rfl (fun K hK => ?_) (AllReadyH.cons (o := _) rfl (fun K hK => ?_) AllReadyH.nil)
      · rw [if_pos (by rfl)]
        go_simp
        refine hK.out _ _ (hH1.below ((Below.refl _ _).alloc (Nat.le_refl _) _)) (fun hH2 => ?_)
        clear hK K
        try simp only [Act.put]
        refine wpAnyH_ready (rs := [8]) (by kernel_rfl) (by simp) ?_
        refine AllReadyH.cons (o := _) rfl (fun K hK => ?_) AllReadyH.nil
        rw [if_pos (by rfl)]
        go_simp
        refine hK.out _ _ (hH2.below ((Below.refl _ _).alloc (Nat.le_refl _) _)) (fun hH3 => ?_)
        clear hK K
        try simp only [Act.put]
        refine wpAnyH_take (i := 9) (v := .int .i64 s) rfl (by kernel_rfl) (by kernel_rfl) (by kernel_rfl) (fun _ _ _ h => h) (Or.inl ⟨by rfl, fun w' hSw => by have c0 := CC.out w' hSw; go_simp⟩) hH3 ?_
        refine (show wpAnyH _ _ _ _ _ _ _ (Act.put _ (some 6) _) _ from ?_)
        simp only [Act.put]
        have lt := hv.lt
        refine wpAnyH_ready (rs := [10]) (by kernel_rfl) (by simp) ?_
        refine AllReadyH.cons (o := _) rfl (fun K hK => ?_) AllReadyH.nil
        rw [if_pos (by rfl)]
        refine wp_store_row 25 (.tmp 7) (.tmp 29) rfl (v.heap.size + 1) E rfl rfl 25 Z (h3_1 _ _ _ _) HEI.out HZE.out HE1.out ?_
        refine hK.out _ _ (hH3.setRow _ (by omega) _) (fun hA => ?_)
        clear hK K
        refine wpAnyH_ready (rs := [11]) (by kernel_rfl) (by simp) ?_
        refine AllReadyH.cons (o := _) rfl (fun K hK => ?_) AllReadyH.nil
        rw [if_pos (by rfl)]
        refine wp_store_row 31 (.tmp 8) (.tmp 31) rfl (v.heap.size + 1 + 1) zs rfl rfl 31 Z64 (by rw [heap_setRow_other _ _ _ _ (by omega)]; exact h3_2 _ _ _ _) HFI.out HFZ.out HF1.out ?_
        refine hK.out _ _ (hA.setRow _ (by omega) _) (fun hB => ?_)
        clear hK K
        refine wpAnyH_done (by kernel_rfl) ?_ _
        refine NoPanic.normal ?_
        go_wp2_with fail
        go_meet
        exact ⟨rfl, (v.heap.size + 1), (v.heap.size + 1 + 1), rfl, rfl, Lib.hid (by rw [heap_setRow_other _ _ _ _ (by omega)]; exact setRow_heap _ _ _ _ _ _ (h3_1 _ _ _ _)), Lib.hid (setRow_heap _ _ _ _ _ _ (by rw [heap_setRow_other _ _ _ _ (by omega)]; exact h3_2 _ _ _ _)), by omega, by omega, by omega, Lib.hid hB⟩
      · rw [if_pos (by rfl)]
        go_simp
        refine hK.out _ _ (hH1.below ((Below.refl _ _).alloc (Nat.le_refl _) _)) (fun hH4 => ?_)
        clear hK K
        try simp only [Act.put]
        refine wpAnyH_ready (rs := [7]) (by kernel_rfl) (by simp) ?_
        refine AllReadyH.cons (o := _) rfl (fun K hK => ?_) AllReadyH.nil
        rw [if_pos (by rfl)]
        go_simp
        refine hK.out _ _ (hH4.below ((Below.refl _ _).alloc (Nat.le_refl _) _)) (fun hH5 => ?_)
        clear hK K
        try simp only [Act.put]
        refine wpAnyH_take (i := 9) (v := .int .i64 s) rfl (by kernel_rfl) (by kernel_rfl) (by kernel_rfl) (fun _ _ _ h => h) (Or.inl ⟨by rfl, fun w' hSw => by have c0 := CC.out w' hSw; go_simp⟩) hH5 ?_
        refine (show wpAnyH _ _ _ _ _ _ _ (Act.put _ (some 6) _) _ from ?_)
        simp only [Act.put]
        have lt := hv.lt
        refine wpAnyH_ready (rs := [10]) (by kernel_rfl) (by simp) ?_
        refine AllReadyH.cons (o := _) rfl (fun K hK => ?_) AllReadyH.nil
        rw [if_pos (by rfl)]
        refine wp_store_row 25 (.tmp 7) (.tmp 29) rfl (v.heap.size + 1 + 1) E rfl rfl 25 Z (h3_2 _ _ _ _) HEI.out HZE.out HE1.out ?_
        refine hK.out _ _ (hH5.setRow _ (by omega) _) (fun hA => ?_)
        clear hK K
        refine wpAnyH_ready (rs := [11]) (by kernel_rfl) (by simp) ?_
        refine AllReadyH.cons (o := _) rfl (fun K hK => ?_) AllReadyH.nil
        rw [if_pos (by rfl)]
        refine wp_store_row 31 (.tmp 8) (.tmp 31) rfl (v.heap.size + 1) zs rfl rfl 31 Z64 (by rw [heap_setRow_other _ _ _ _ (by omega)]; exact h3_1 _ _ _ _) HFI.out HFZ.out HF1.out ?_
        refine hK.out _ _ (hA.setRow _ (by omega) _) (fun hB => ?_)
        clear hK K
        refine wpAnyH_done (by kernel_rfl) ?_ _
        refine NoPanic.normal ?_
        go_wp2_with fail
        go_meet
        exact ⟨rfl, (v.heap.size + 1 + 1), (v.heap.size + 1), rfl, rfl, Lib.hid (by rw [heap_setRow_other _ _ _ _ (by omega)]; exact setRow_heap _ _ _ _ _ _ (h3_2 _ _ _ _)), Lib.hid (setRow_heap _ _ _ _ _ _ (by rw [heap_setRow_other _ _ _ _ (by omega)]; exact h3_1 _ _ _ _)), by omega, by omega, by omega, Lib.hid hB⟩
    · rw [if_pos (by rfl)]
      go_simp
      refine hK.out _ _ (h1.below ((Below.refl _ _).alloc (Nat.le_refl _) _)) (fun hH6 => ?_)
      clear hK K
      try simp only [Act.put]
      refine wpAnyH_ready (rs := [4, 8]) (by kernel_rfl) (by simp) ?_
      refine AllReadyH.cons (o := _) rfl (fun K hK => ?_) (AllReadyH.cons (o := _) rfl (fun K hK => ?_) AllReadyH.nil)
      · rw [if_pos (by rfl)]
        go_simp
        refine (HE.out _).mono ?_
        rintro e w' ⟨rfl, rfl⟩
        refine hK.out _ _ (hH6.below ((Below.refl _ _).alloc (Nat.le_refl _) _)) (fun hH7 => ?_)
        clear hK K
        try simp only [Act.put]
        refine wpAnyH_ready (rs := [8]) (by kernel_rfl) (by simp) ?_
        refine AllReadyH.cons (o := _) rfl (fun K hK => ?_) AllReadyH.nil
        rw [if_pos (by rfl)]
        go_simp
        refine hK.out _ _ (hH7.below ((Below.refl _ _).alloc (Nat.le_refl _) _)) (fun hH8 => ?_)
        clear hK K
        try simp only [Act.put]
        refine wpAnyH_take (i := 9) (v := .int .i64 s) rfl (by kernel_rfl) (by kernel_rfl) (by kernel_rfl) (fun _ _ _ h => h) (Or.inl ⟨by rfl, fun w' hSw => by have c0 := CC.out w' hSw; go_simp⟩) hH8 ?_
        refine (show wpAnyH _ _ _ _ _ _ _ (Act.put _ (some 6) _) _ from ?_)
        simp only [Act.put]
        have lt := hv.lt
        refine wpAnyH_ready (rs := [10]) (by kernel_rfl) (by simp) ?_
        refine AllReadyH.cons (o := _) rfl (fun K hK => ?_) AllReadyH.nil
        rw [if_pos (by rfl)]
        refine wp_store_row 25 (.tmp 7) (.tmp 29) rfl v.heap.size E rfl rfl 25 Z (h3_0 _ _ _ _) HEI.out HZE.out HE1.out ?_
        refine hK.out _ _ (hH8.setRow _ (by omega) _) (fun hA => ?_)
        clear hK K
        refine wpAnyH_ready (rs := [11]) (by kernel_rfl) (by simp) ?_
        refine AllReadyH.cons (o := _) rfl (fun K hK => ?_) AllReadyH.nil
        rw [if_pos (by rfl)]
        refine wp_store_row 31 (.tmp 8) (.tmp 31) rfl (v.heap.size + 1 + 1) zs rfl rfl 31 Z64 (by rw [heap_setRow_other _ _ _ _ (by omega)]; exact h3_2 _ _ _ _) HFI.out HFZ.out HF1.out ?_
        refine hK.out _ _ (hA.setRow _ (by omega) _) (fun hB => ?_)
        clear hK K
        refine wpAnyH_done (by kernel_rfl) ?_ _
        refine NoPanic.normal ?_
        go_wp2_with fail
        go_meet
        exact ⟨rfl, v.heap.size, (v.heap.size + 1 + 1), rfl, rfl, Lib.hid (by rw [heap_setRow_other _ _ _ _ (by omega)]; exact setRow_heap _ _ _ _ _ _ (h3_0 _ _ _ _)), Lib.hid (setRow_heap _ _ _ _ _ _ (by rw [heap_setRow_other _ _ _ _ (by omega)]; exact h3_2 _ _ _ _)), by omega, by omega, by omega, Lib.hid hB⟩
      · rw [if_pos (by rfl)]
        go_simp
        refine hK.out _ _ (hH6.below ((Below.refl _ _).alloc (Nat.le_refl _) _)) (fun hH9 => ?_)
        clear hK K
        try simp only [Act.put]
        refine wpAnyH_ready (rs := [4]) (by kernel_rfl) (by simp) ?_
        refine AllReadyH.cons (o := _) rfl (fun K hK => ?_) AllReadyH.nil
        rw [if_pos (by rfl)]
        go_simp
        refine (HE.out _).mono ?_
        rintro e w' ⟨rfl, rfl⟩
        refine hK.out _ _ (hH9.below ((Below.refl _ _).alloc (Nat.le_refl _) _)) (fun hH10 => ?_)
        clear hK K
        try simp only [Act.put]
        refine wpAnyH_take (i := 9) (v := .int .i64 s) rfl (by kernel_rfl) (by kernel_rfl) (by kernel_rfl) (fun _ _ _ h => h) (Or.inl ⟨by rfl, fun w' hSw => by have c0 := CC.out w' hSw; go_simp⟩) hH10 ?_
        refine (show wpAnyH _ _ _ _ _ _ _ (Act.put _ (some 6) _) _ from ?_)
        simp only [Act.put]
        have lt := hv.lt
        refine wpAnyH_ready (rs := [10]) (by kernel_rfl) (by simp) ?_
        refine AllReadyH.cons (o := _) rfl (fun K hK => ?_) AllReadyH.nil
        rw [if_pos (by rfl)]
        refine wp_store_row 25 (.tmp 7) (.tmp 29) rfl v.heap.size E rfl rfl 25 Z (h3_0 _ _ _ _) HEI.out HZE.out HE1.out ?_
        refine hK.out _ _ (hH10.setRow _ (by omega) _) (fun hA => ?_)
        clear hK K
        refine wpAnyH_ready (rs := [11]) (by kernel_rfl) (by simp) ?_
        refine AllReadyH.cons (o := _) rfl (fun K hK => ?_) AllReadyH.nil
        rw [if_pos (by rfl)]
        refine wp_store_row 31 (.tmp 8) (.tmp 31) rfl (v.heap.size + 1) zs rfl rfl 31 Z64 (by rw [heap_setRow_other _ _ _ _ (by omega)]; exact h3_1 _ _ _ _) HFI.out HFZ.out HF1.out ?_
        refine hK.out _ _ (hA.setRow _ (by omega) _) (fun hB => ?_)
        clear hK K
        refine wpAnyH_done (by kernel_rfl) ?_ _
        refine NoPanic.normal ?_
        go_wp2_with fail
        go_meet
        exact ⟨rfl, v.heap.size, (v.heap.size + 1), rfl, rfl, Lib.hid (by rw [heap_setRow_other _ _ _ _ (by omega)]; exact setRow_heap _ _ _ _ _ _ (h3_0 _ _ _ _)), Lib.hid (setRow_heap _ _ _ _ _ _ (by rw [heap_setRow_other _ _ _ _ (by omega)]; exact h3_1 _ _ _ _)), by omega, by omega, by omega, Lib.hid hB⟩
    · rw [if_pos (by rfl)]
      go_simp
      refine hK.out _ _ (h1.below ((Below.refl _ _).alloc (Nat.le_refl _) _)) (fun hH11 => ?_)
      clear hK K
      try simp only [Act.put]
      refine wpAnyH_ready (rs := [4, 7]) (by kernel_rfl) (by simp) ?_
      refine AllReadyH.cons (o := _) rfl (fun K hK => ?_) (AllReadyH.cons (o := _) rfl (fun K hK => ?_) AllReadyH.nil)
      · rw [if_pos (by rfl)]
        go_simp
        refine (HE.out _).mono ?_
        rintro e w' ⟨rfl, rfl⟩
        refine hK.out _ _ (hH11.below ((Below.refl _ _).alloc (Nat.le_refl _) _)) (fun hH12 => ?_)
        clear hK K
        try simp only [Act.put]
        refine wpAnyH_ready (rs := [7]) (by kernel_rfl) (by simp) ?_
        refine AllReadyH.cons (o := _) rfl (fun K hK => ?_) AllReadyH.nil
        rw [if_pos (by rfl)]
        go_simp
        refine hK.out _ _ (hH12.below ((Below.refl _ _).alloc (Nat.le_refl _) _)) (fun hH13 => ?_)
        clear hK K
        try simp only [Act.put]
        refine wpAnyH_take (i := 9) (v := .int .i64 s) rfl (by kernel_rfl) (by kernel_rfl) (by kernel_rfl) (fun _ _ _ h => h) (Or.inl ⟨by rfl, fun w' hSw => by have c0 := CC.out w' hSw; go_simp⟩) hH13 ?_
        refine (show wpAnyH _ _ _ _ _ _ _ (Act.put _ (some 6) _) _ from ?_)
        simp only [Act.put]
        have lt := hv.lt
        refine wpAnyH_ready (rs := [10]) (by kernel_rfl) (by simp) ?_
        refine AllReadyH.cons (o := _) rfl (fun K hK => ?_) AllReadyH.nil
        rw [if_pos (by rfl)]
        refine wp_store_row 25 (.tmp 7) (.tmp 29) rfl (v.heap.size + 1 + 1) E rfl rfl 25 Z (h3_2 _ _ _ _) HEI.out HZE.out HE1.out ?_
        refine hK.out _ _ (hH13.setRow _ (by omega) _) (fun hA => ?_)
        clear hK K
        refine wpAnyH_ready (rs := [11]) (by kernel_rfl) (by simp) ?_
        refine AllReadyH.cons (o := _) rfl (fun K hK => ?_) AllReadyH.nil
        rw [if_pos (by rfl)]
        refine wp_store_row 31 (.tmp 8) (.tmp 31) rfl v.heap.size zs rfl rfl 31 Z64 (by rw [heap_setRow_other _ _ _ _ (by omega)]; exact h3_0 _ _ _ _) HFI.out HFZ.out HF1.out ?_
        refine hK.out _ _ (hA.setRow _ (by omega) _) (fun hB => ?_)
        clear hK K
        refine wpAnyH_done (by kernel_rfl) ?_ _
        refine NoPanic.normal ?_
        go_wp2_with fail
        go_meet
        exact ⟨rfl, (v.heap.size + 1 + 1), v.heap.size, rfl, rfl, Lib.hid (by rw [heap_setRow_other _ _ _ _ (by omega)]; exact setRow_heap _ _ _ _ _ _ (h3_2 _ _ _ _)), Lib.hid (setRow_heap _ _ _ _ _ _ (by rw [heap_setRow_other _ _ _ _ (by omega)]; exact h3_0 _ _ _ _)), by omega, by omega, by omega, Lib.hid hB⟩
      · rw [if_pos (by rfl)]
        go_simp
        refine hK.out _ _ (hH11.below ((Below.refl _ _).alloc (Nat.le_refl _) _)) (fun hH14 => ?_)
        clear hK K
        try simp only [Act.put]
        refine wpAnyH_ready (rs := [4]) (by kernel_rfl) (by simp) ?_
        refine AllReadyH.cons (o := _) rfl (fun K hK => ?_) AllReadyH.nil
        rw [if_pos (by rfl)]
        go_simp
        refine (HE.out _).mono ?_
        rintro e w' ⟨rfl, rfl⟩
        refine hK.out _ _ (hH14.below ((Below.refl _ _).alloc (Nat.le_refl _) _)) (fun hH15 => ?_)
        clear hK K
        try simp only [Act.put]
        refine wpAnyH_take (i := 9) (v := .int .i64 s) rfl (by kernel_rfl) (by kernel_rfl) (by kernel_rfl) (fun _ _ _ h => h) (Or.inl ⟨by rfl, fun w' hSw => by have c0 := CC.out w' hSw; go_simp⟩) hH15 ?_
        refine (show wpAnyH _ _ _ _ _ _ _ (Act.put _ (some 6) _) _ from ?_)
        simp only [Act.put]
        have lt := hv.lt
        refine wpAnyH_ready (rs := [10]) (by kernel_rfl) (by simp) ?_
        refine AllReadyH.cons (o := _) rfl (fun K hK => ?_) AllReadyH.nil
        rw [if_pos (by rfl)]
        refine wp_store_row 25 (.tmp 7) (.tmp 29) rfl (v.heap.size + 1) E rfl rfl 25 Z (h3_1 _ _ _ _) HEI.out HZE.out HE1.out ?_
        refine hK.out _ _ (hH15.setRow _ (by omega) _) (fun hA => ?_)
        clear hK K
        refine wpAnyH_ready (rs := [11]) (by kernel_rfl) (by simp) ?_
        refine AllReadyH.cons (o := _) rfl (fun K hK => ?_) AllReadyH.nil
        rw [if_pos (by rfl)]
        refine wp_store_row 31 (.tmp 8) (.tmp 31) rfl v.heap.size zs rfl rfl 31 Z64 (by rw [heap_setRow_other _ _ _ _ (by omega)]; exact h3_0 _ _ _ _) HFI.out HFZ.out HF1.out ?_
        refine hK.out _ _ (hA.setRow _ (by omega) _) (fun hB => ?_)
        clear hK K
        refine wpAnyH_done (by kernel_rfl) ?_ _
        refine NoPanic.normal ?_
        go_wp2_with fail
        go_meet
        exact ⟨rfl, (v.heap.size + 1), v.heap.size, rfl, rfl, Lib.hid (by rw [heap_setRow_other _ _ _ _ (by omega)]; exact setRow_heap _ _ _ _ _ _ (h3_1 _ _ _ _)), Lib.hid (setRow_heap _ _ _ _ _ _ (by rw [heap_setRow_other _ _ _ _ (by omega)]; exact h3_0 _ _ _ _)), by omega, by omega, by omega, Lib.hid hB⟩
  case rest =>
  obtain ⟨rfl, q1, q2, rfl, rfl, G1, G2, hq, hq1, hq2, K3⟩ := hcut
  have GZ : Hid (wc.heap[w.heap.size + 1]? = some (.cells Z 25 (0, 0))) := Lib.hid K3.out.2.1
  have B3 : Hid (Below w.heap.size w wc) := Lib.hid K3.out.2.2
  have HZI : Hid ((Tryd.prog.info? 25).map (·.size) = some Z.size) := Lib.hid (by rw [HZ37.out]; exact HS37.out)
  clear K2 K3 CC RR HE hzF HFL HFI HFZ HF1 HS HP0 HPP hne HE37 HE1 HEI HZE hf hlt'
  generalize wc = V at *
  have hN := HN.out
  have HSQ : Hid (∀ j, j < N → j % s + 1 < s → (j + 1) % s ≠ 0 ∧ j + 1 < N ∧ 2 ≤ s) := Lib.hid fun j hj hr => by
    rw [← hN] at *
    refine ⟨by rw [Nat.add_mod, Nat.mod_eq_of_lt (a := 1) (by omega), Nat.mod_eq_of_lt (a := j % s + 1) hr]; omega, ?_, by omega⟩
    have h1 := Nat.div_add_mod j s
    have h2 : j / s < s := Nat.div_lt_of_lt_mul hj
    have h3 : s * (j / s) + s ≤ s * s := by rw [← Nat.mul_succ]; exact Nat.mul_le_mul_left _ h2
    omega
  have HSQ2 : Hid (∀ j, j < N → ¬ j % s + 1 < s → (j + 1) % s = 0) := Lib.hid fun j hj hr => by
    have h1 : j % s < s := Nat.mod_lt _ (by omega)
    have h2 : j % s + 1 = s := by omega
    have h3 := Nat.div_add_mod j s
    have h4 : j + 1 = s * (j / s + 1) := by rw [Nat.mul_add, Nat.mul_one]; omega
    rw [h4]; exact Nat.mul_mod_right _ _
  have HSQ3 : Hid (∀ j, j < N → (j / s + 1 < s ↔ j + s < N)) := Lib.hid fun j hj => by
    have h0 : 0 < s := by omega
    have h1 : (j + s) / s = j / s + 1 := Nat.add_div_right j h0
    rw [← h1, Nat.div_lt_iff_lt_mul h0, hN]
  clear hN
  have HNO : Hid (∀ j, j ≤ N → okT s t d L false j = false → okT s t d L false N = false) := Lib.hid fun j hj h => okT_no s t d L false j N hj h
  go_wp2
  go_loopw [9, 10] (fun i _ wr => ∃ (k : Nat) (C D : Array Value), k ≤ N ∧ i = .int .i64 k ∧ Hid (okT s t d L false k = true) ∧ Hid (C = pic s (gf (dot s t d L false) k)) ∧ Hid (wr.heap[q1]? = some (.cells C 25 (0, 0))) ∧ Hid (D.size = 64 ∧ ∀ j, k ≤ j → j < N → D[j]? = some (.float .f32 (sm s t d L k j))) ∧ Hid (wr.heap[q2]? = some (.cells D 31 (0, 0))) ∧ Hid (wr.heap[w.heap.size + 1]? = some (.cells Z 25 (0, 0))) ∧ Hid (Below w.heap.size w wr)) (fun i _ _ => N - (intOf i).toNat)
  case atStart => exact ⟨0, E, zs, by omega, rfl, Lib.hid rfl, HEE, G1, Lib.hid ⟨hZsz.out, fun j _ hj => by rw [sm_zero _ _ _ _ (by omega)]; exact HLV.out j (by omega)⟩, G2, GZ, B3⟩
  case round =>
    obtain ⟨k, C, D, hk, rfl, HOK, HD, G, HDS, GD, Z0, B⟩ := hrel
    by_cases hlt : k < N
    · have hdk : decide ((k : Int) < (N : Int)) = true := by simp; omega
      have hk64 : (k : Int) < 64 := by omega
      have hk0 : (0 : Int) ≤ (k : Int) := by omega
      obtain ⟨hm, hokk⟩ := model_cell HH.out k HOK.out
      have hpk : wr.cell? ⟨q2, k, none⟩ = some (.float .f32 (sT s t d L false k)) := by rw [cell_of_row _ _ _ _ _ _ GD.out, ← sm_self]; exact HDS.out.2 k (Nat.le_refl _) hlt
      have HM := Lib.hid hm
      have HKK := Lib.hid hokk
      have HDT : Hid (dot s t d L false k = mark (geT (sT s t d L false k) t)) := Lib.hid rfl
      have HSR : Hid (okT s t d L false (k + 1) = true → 0 < (k + 1) % s → k + 1 < N → 2 ≤ s → floatBits .add .f32 (sm s t d L k (k + 1)) (cellH t d (sT s t d L false k)) = some (sm s t d L (k + 1) (k + 1))) := Lib.hid fun h h2 h3 h4 => sm_right HH.out k (by omega) h4 h2 h
      have HSB : Hid (okT s t d L false (k + 1) = true → k + s < N → 2 ≤ s → floatBits .add .f32 (sm s t d L k (k + s)) (cellH t d (sT s t d L false k)) = some (sm s t d L (k + 1) (k + s))) := Lib.hid fun h h2 h3 => sm_below HH.out k (by omega) h3 h
      clear hm hokk
      generalize sT s t d L false k = sv at *
      go_wp2_with fail
      refine (fine_any _ _).mono ?_
      cases hf1 : fin sv
      · rintro e w' ⟨rfl, n', rfl⟩
        have HKN := Lib.hid (HNO.out (k + 1) (by omega) (by rw [HKK.out, hf1]; rfl))
        have Z0' : Hid ((wr.drewN n').heap[w.heap.size + 1]? = some (.cells Z 25 (0, 0))) := Z0
        have B' : Hid (Below w.heap.size w (wr.drewN n')) := Lib.hid (below_drewN B.out _)
        generalize wr.drewN n' = wx at *
        go_wp2_with (first | fail | (refine wpList_store_row rfl 25 (.tmp 4) (.tmp 45) rfl (w.heap.size + 1) Z rfl rfl 25 Z Z0'.out HZI.out rfl HZ1.out ?_))
        refine bodyPost_ret (v := .tuple #[.agg Z, .int .i64 3]) (results_row_tmp (fn := Tryd.f14) (p := 4) (u := 5) (ty := 25) rfl _ _ (w.heap.size + 1) 25 Z (0, 0) _ rfl (setRow_heap _ _ _ _ _ _ Z0'.out) Tryd.underlying25 rfl HZI.out) rfl ⟨by rw [HKN.out]; rfl, ?_⟩
        exact below_setRow B'.out (by omega) _
      · rintro e w' ⟨rfl, n', rfl⟩
        have Z0' : Hid ((wr.drewN n').heap[w.heap.size + 1]? = some (.cells Z 25 (0, 0))) := Z0
        have G' : Hid ((wr.drewN n').heap[q1]? = some (.cells C 25 (0, 0))) := G
        have GD' : Hid ((wr.drewN n').heap[q2]? = some (.cells D 31 (0, 0))) := GD
        have B' : Hid (Below w.heap.size w (wr.drewN n')) := Lib.hid (below_drewN B.out _)
        clear Z0 G GD B hpk
        have Z0 := Z0'
        have G := G'
        have GD := GD'
        have B := B'
        clear Z0' G' GD' B'
        generalize wr.drewN n' = wx at *
        have hold : wx.cell? ⟨q1, 1 + k, none⟩ = some (.complex .f32 0 0) := by
          rw [cell_of_row _ _ _ _ _ _ G.out, HD.out]; exact gf_old s _ k (by omega)
        have hfree : wx.frozen? ⟨q1, 1 + k, none⟩ = false := frozen_of_row _ _ _ _ _ G.out
        cases hg : geT sv t
        · have hg' : (FloatKind.f32.format.order sv t == some .gt || FloatKind.f32.format.order sv t == some .eq) = false := hg
          have hRR : cellR t d sv = sv := (HM.out hf1).2.1 hg
          rw [hg] at HDT
          rw [hRR] at HM HKK
          have HSK : Hid (C = pic s (gf (dot s t d L false) (k + 1))) := Lib.hid (by rw [HD.out, gf_skip _ _ HDT.out])
          clear hg hRR hold hfree
          go_wp2_with fail
          refine (fine_any _ _).mono ?_
          cases hf2 : fin sv
          · rw [hf1] at hf2; cases hf2
          · rintro e w' ⟨rfl, n'', rfl⟩
            have HOK1 : Hid (okT s t d L false (k + 1) = true) := Lib.hid (by first | (rw [HKK.out, hf1, hf2]; rfl) | (rw [HKK.out, hf1]; rfl))
            have Z1 : Hid ((wx.drewN n'').heap[w.heap.size + 1]? = some (.cells Z 25 (0, 0))) := Lib.hid (Z0.out)
            have G1 : Hid ((wx.drewN n'').heap[q1]? = some (.cells C 25 (0, 0))) := Lib.hid (G.out)
            have D1 : Hid ((wx.drewN n'').heap[q2]? = some (.cells D 31 (0, 0))) := Lib.hid (GD.out)
            have B1 : Hid (Below w.heap.size w (wx.drewN n'')) := Lib.hid (below_drewN (B.out) _)
            generalize wx.drewN n'' = wy at *
            have hdv := (HM.out hf1).2.2 hf2
            have g3 := fun w => run_float_arith (P := Tryd.prog) w .quo 30 .f32 _ _ _ hdv
            clear hdv
            have htm : (k : Int).tmod (s : Int) = ((k % s : Nat) : Int) := by rw [Int.tmod_eq_emod_of_nonneg (by omega)]; rfl
            obtain ⟨qq, hqq⟩ : ∃ qq : Nat, k / s = qq := ⟨_, rfl⟩
            have hqk : qq ≤ k := by rw [← hqq]; exact Nat.div_le_self k s
            have htd : (k : Int).tdiv (s : Int) = (qq : Int) := by rw [Int.tdiv_eq_ediv_of_nonneg (by omega), ← Int.natCast_ediv, hqq]
            have hq64 : (qq : Int) < 64 := by omega
            have hwq : IntKind.i64.wrap (qq : Int) = (qq : Int) := IntWalk.i64_in _ (by omega)
            have hws : IntKind.i64.wrap ((s : Int) - 1) = (s : Int) - 1 := IntWalk.i64_in _ (by omega)
            have hwk : IntKind.i64.wrap ((k : Int) + (s : Int)) = ((k + s : Nat) : Int) := by rw [IntWalk.i64_in _ (by omega)]; rfl
            have hwr : IntKind.i64.wrap ((k % s : Nat) : Int) = ((k % s : Nat) : Int) := IntWalk.i64_in _ (by have := Nat.mod_lt k (show 0 < s by omega); omega)
            have hb3 : Hid (qq + 1 < s ↔ k + s < N) := Lib.hid (by have h9 := HSQ3.out k hlt; rw [hqq] at h9; exact h9)
            clear hqq
            by_cases hr : k % s + 1 < s
            · obtain ⟨e1, e2, e3⟩ := HSQ.out k hlt hr
              have hdr : decide (((k % s : Nat) : Int) < (s : Int) - 1) = true := by simp; omega
              have hsr := HSR.out HOK1.out (by omega) e2 e3
              have g4 := fun w => run_float_arith (P := Tryd.prog) w .add 30 .f32 _ _ _ hsr
              have hp1 : wy.cell? ⟨q2, k + 1, none⟩ = some (.float .f32 (sm s t d L k (k + 1))) := by rw [cell_of_row _ _ _ _ _ _ D1.out]; exact HDS.out.2 (k + 1) (by omega) e2
              have hz1 : wy.frozen? ⟨q2, k + 1, none⟩ = false := frozen_of_row _ _ _ _ _ D1.out
              clear hsr
              have Z2 := Lib.hid (show (wy.setCell ⟨q2, k + 1, none⟩ (.float .f32 (sm s t d L (k + 1) (k + 1)))).heap[w.heap.size + 1]? = some (.cells Z 25 (0, 0)) by rw [heap_setCell_other _ _ _ _ (by show w.heap.size + 1 ≠ q2; omega)]; exact Z1.out)
              have G2 := Lib.hid (show (wy.setCell ⟨q2, k + 1, none⟩ (.float .f32 (sm s t d L (k + 1) (k + 1)))).heap[q1]? = some (.cells C 25 (0, 0)) by rw [heap_setCell_other _ _ _ _ (by show q1 ≠ q2; omega)]; exact G1.out)
              have D2 := Lib.hid (heap_setCell_same _ _ _ _ _ _ D1.out : (wy.setCell ⟨q2, k + 1, none⟩ (.float .f32 (sm s t d L (k + 1) (k + 1)))).heap[q2]? = _)
              have B2 : Hid (Below w.heap.size w (wy.setCell ⟨q2, k + 1, none⟩ (.float .f32 (sm s t d L (k + 1) (k + 1))))) := Lib.hid (B1.out.setCell (by show w.heap.size ≤ q2; omega) _)
              by_cases hb : qq + 1 < s
              · have hdb : decide ((qq : Int) < (s : Int) - 1) = true := by simp; omega
                have hks : k + s < N := hb3.out.1 hb
                have hsb := HSB.out HOK1.out hks e3
                have g5 := fun w => run_float_arith (P := Tryd.prog) w .add 30 .f32 _ _ _ hsb
                have HROW := Lib.hid (row_both s t d L N k (by omega) D HDS.out e3 hks)
                have hp2 : (wy.setCell ⟨q2, k + 1, none⟩ (.float .f32 (sm s t d L (k + 1) (k + 1)))).cell? ⟨q2, k + s, none⟩ = some (.float .f32 (sm s t d L k (k + s))) := by
                  rw [cell_of_row _ _ _ _ _ _ D2.out, Array.getElem?_setIfInBounds, if_neg (by omega)]
                  exact HDS.out.2 (k + s) (by omega) hks
                have hz2 : (wy.setCell ⟨q2, k + 1, none⟩ (.float .f32 (sm s t d L (k + 1) (k + 1)))).frozen? ⟨q2, k + s, none⟩ = false := frozen_of_row _ _ _ _ _ D2.out
                clear hsb
                go_wp2
                exact ⟨⟨k + 1, _, _, by omega, by go_num, HOK1, HSK, Lib.hid (by rw [heap_setCell_other _ _ _ _ (by show q1 ≠ q2; omega)]; exact G2.out), HROW, Lib.hid (heap_setCell_same _ _ _ _ _ _ D2.out), Lib.hid (by rw [heap_setCell_other _ _ _ _ (by show w.heap.size + 1 ≠ q2; omega)]; exact Z2.out), Lib.hid (B2.out.setCell (by show w.heap.size ≤ q2; omega) _)⟩, by simp [intOf]; omega⟩
              · have hdb : decide ((qq : Int) < (s : Int) - 1) = false := by simp; omega
                have HROW := Lib.hid (row_right s t d L N k (by omega) D HDS.out (by have := hb3.out; omega) e2)
                go_wp2
                exact ⟨⟨k + 1, _, _, by omega, by go_num, HOK1, HSK, G2, HROW, D2, Z2, B2⟩, by simp [intOf]; omega⟩
            · have hdr : decide (((k % s : Nat) : Int) < (s : Int) - 1) = false := by simp; omega
              have e0 := HSQ2.out k hlt hr
              by_cases hb : qq + 1 < s
              · have hdb : decide ((qq : Int) < (s : Int) - 1) = true := by simp; omega
                have hks : k + s < N := hb3.out.1 hb
                have hsb := HSB.out HOK1.out hks (by omega)
                have g5 := fun w => run_float_arith (P := Tryd.prog) w .add 30 .f32 _ _ _ hsb
                have HROW := Lib.hid (row_below s t d L N k (by omega) D HDS.out e0 (by omega) hks)
                have hp2 : wy.cell? ⟨q2, k + s, none⟩ = some (.float .f32 (sm s t d L k (k + s))) := by rw [cell_of_row _ _ _ _ _ _ D1.out]; exact HDS.out.2 (k + s) (by omega) hks
                have hz2 : wy.frozen? ⟨q2, k + s, none⟩ = false := frozen_of_row _ _ _ _ _ D1.out
                clear hsb
                go_wp2
                exact ⟨⟨k + 1, _, _, by omega, by go_num, HOK1, HSK, Lib.hid (by rw [heap_setCell_other _ _ _ _ (by show q1 ≠ q2; omega)]; exact G1.out), HROW, Lib.hid (heap_setCell_same _ _ _ _ _ _ D1.out), Lib.hid (by rw [heap_setCell_other _ _ _ _ (by show w.heap.size + 1 ≠ q2; omega)]; exact Z1.out), Lib.hid (B1.out.setCell (by show w.heap.size ≤ q2; omega) _)⟩, by simp [intOf]; omega⟩
              · have hdb : decide ((qq : Int) < (s : Int) - 1) = false := by simp; omega
                have HROW := Lib.hid (row_stay s t d L N k HN.out D HDS.out e0 (by have := hb3.out; omega))
                go_wp2
                exact ⟨⟨k + 1, _, _, by omega, by go_num, HOK1, HSK, G1, HROW, D1, Z1, B1⟩, by simp [intOf]; omega⟩
        · have hg' : (FloatKind.f32.format.order sv t == some .gt || FloatKind.f32.format.order sv t == some .eq) = true := hg
          have hsub := (HM.out hf1).1 hg
          have g1 := fun w => run_float_arith (P := Tryd.prog) w .mul 30 .f32 _ _ d HMD.out
          have g2 := fun w => run_float_arith (P := Tryd.prog) w .sub 30 .f32 _ _ _ hsub
          rw [hg] at HDT
          have HSK : Hid (C.setIfInBounds (1 + k) (.complex .f32 1065353216 0) = pic s (gf (dot s t d L false) (k + 1))) := Lib.hid (by rw [HD.out, ← gf_set s _ _ (by omega), HDT.out]; rfl)
          clear hg hsub
          generalize cellR t d sv = R at *
          go_wp2_with fail
          refine (fine_any _ _).mono ?_
          cases hf2 : fin R
          · rintro e w' ⟨rfl, n'', rfl⟩
            have HKN := Lib.hid (HNO.out (k + 1) (by omega) (by rw [HKK.out, hf1, hf2]; rfl))
            have Z1 : Hid ((((wx.setCell ⟨q1, 1 + k, none⟩ (.complex .f32 1065353216 0))).drewN n'').heap[w.heap.size + 1]? = some (.cells Z 25 (0, 0))) := Lib.hid (by show (wx.setCell ⟨q1, 1 + k, none⟩ (.complex .f32 1065353216 0)).heap[w.heap.size + 1]? = _; rw [heap_setCell_other _ _ _ _ (by show w.heap.size + 1 ≠ q1; omega)]; exact Z0.out)
            have B1 : Hid (Below w.heap.size w (((wx.setCell ⟨q1, 1 + k, none⟩ (.complex .f32 1065353216 0))).drewN n'')) := Lib.hid (below_drewN (B.out.setCell (by show w.heap.size ≤ q1; omega) _) _)
            generalize ((wx.setCell ⟨q1, 1 + k, none⟩ (.complex .f32 1065353216 0))).drewN n'' = wy at *
            go_wp2_with (first | fail | (refine wpList_store_row rfl 25 (.tmp 4) (.tmp 59) rfl (w.heap.size + 1) Z rfl rfl 25 Z Z1.out HZI.out rfl HZ1.out ?_))
            refine bodyPost_ret (v := .tuple #[.agg Z, .int .i64 3]) (results_row_tmp (fn := Tryd.f14) (p := 4) (u := 5) (ty := 25) rfl _ _ (w.heap.size + 1) 25 Z (0, 0) _ rfl (setRow_heap _ _ _ _ _ _ Z1.out) Tryd.underlying25 rfl HZI.out) rfl ⟨by rw [HKN.out]; rfl, ?_⟩
            exact below_setRow B1.out (by omega) _
          · rintro e w' ⟨rfl, n'', rfl⟩
            have HOK1 : Hid (okT s t d L false (k + 1) = true) := Lib.hid (by first | (rw [HKK.out, hf1, hf2]; rfl) | (rw [HKK.out, hf1]; rfl))
            have Z1 : Hid ((((wx.setCell ⟨q1, 1 + k, none⟩ (.complex .f32 1065353216 0))).drewN n'').heap[w.heap.size + 1]? = some (.cells Z 25 (0, 0))) := Lib.hid (by show (wx.setCell ⟨q1, 1 + k, none⟩ (.complex .f32 1065353216 0)).heap[w.heap.size + 1]? = _; rw [heap_setCell_other _ _ _ _ (by show w.heap.size + 1 ≠ q1; omega)]; exact Z0.out)
            have G1 : Hid ((((wx.setCell ⟨q1, 1 + k, none⟩ (.complex .f32 1065353216 0))).drewN n'').heap[q1]? = some (.cells (C.setIfInBounds (1 + k) (.complex .f32 1065353216 0)) 25 (0, 0))) := Lib.hid (heap_setCell_same _ _ _ _ _ _ G.out)
            have D1 : Hid ((((wx.setCell ⟨q1, 1 + k, none⟩ (.complex .f32 1065353216 0))).drewN n'').heap[q2]? = some (.cells D 31 (0, 0))) := Lib.hid (by show (wx.setCell ⟨q1, 1 + k, none⟩ (.complex .f32 1065353216 0)).heap[q2]? = _; rw [heap_setCell_other _ _ _ _ (by show q2 ≠ q1; omega)]; exact GD.out)
            have B1 : Hid (Below w.heap.size w (((wx.setCell ⟨q1, 1 + k, none⟩ (.complex .f32 1065353216 0))).drewN n'')) := Lib.hid (below_drewN (B.out.setCell (by show w.heap.size ≤ q1; omega) _) _)
            generalize ((wx.setCell ⟨q1, 1 + k, none⟩ (.complex .f32 1065353216 0))).drewN n'' = wy at *
            have hdv := (HM.out hf1).2.2 hf2
            have g3 := fun w => run_float_arith (P := Tryd.prog) w .quo 30 .f32 _ _ _ hdv
            clear hdv
            have htm : (k : Int).tmod (s : Int) = ((k % s : Nat) : Int) := by rw [Int.tmod_eq_emod_of_nonneg (by omega)]; rfl
            obtain ⟨qq, hqq⟩ : ∃ qq : Nat, k / s = qq := ⟨_, rfl⟩
            have hqk : qq ≤ k := by rw [← hqq]; exact Nat.div_le_self k s
            have htd : (k : Int).tdiv (s : Int) = (qq : Int) := by rw [Int.tdiv_eq_ediv_of_nonneg (by omega), ← Int.natCast_ediv, hqq]
            have hq64 : (qq : Int) < 64 := by omega
            have hwq : IntKind.i64.wrap (qq : Int) = (qq : Int) := IntWalk.i64_in _ (by omega)
            have hws : IntKind.i64.wrap ((s : Int) - 1) = (s : Int) - 1 := IntWalk.i64_in _ (by omega)
            have hwk : IntKind.i64.wrap ((k : Int) + (s : Int)) = ((k + s : Nat) : Int) := by rw [IntWalk.i64_in _ (by omega)]; rfl
            have hwr : IntKind.i64.wrap ((k % s : Nat) : Int) = ((k % s : Nat) : Int) := IntWalk.i64_in _ (by have := Nat.mod_lt k (show 0 < s by omega); omega)
            have hb3 : Hid (qq + 1 < s ↔ k + s < N) := Lib.hid (by have h9 := HSQ3.out k hlt; rw [hqq] at h9; exact h9)
            clear hqq
            by_cases hr : k % s + 1 < s
            · obtain ⟨e1, e2, e3⟩ := HSQ.out k hlt hr
              have hdr : decide (((k % s : Nat) : Int) < (s : Int) - 1) = true := by simp; omega
              have hsr := HSR.out HOK1.out (by omega) e2 e3
              have g4 := fun w => run_float_arith (P := Tryd.prog) w .add 30 .f32 _ _ _ hsr
              have hp1 : wy.cell? ⟨q2, k + 1, none⟩ = some (.float .f32 (sm s t d L k (k + 1))) := by rw [cell_of_row _ _ _ _ _ _ D1.out]; exact HDS.out.2 (k + 1) (by omega) e2
              have hz1 : wy.frozen? ⟨q2, k + 1, none⟩ = false := frozen_of_row _ _ _ _ _ D1.out
              clear hsr
              have Z2 := Lib.hid (show (wy.setCell ⟨q2, k + 1, none⟩ (.float .f32 (sm s t d L (k + 1) (k + 1)))).heap[w.heap.size + 1]? = some (.cells Z 25 (0, 0)) by rw [heap_setCell_other _ _ _ _ (by show w.heap.size + 1 ≠ q2; omega)]; exact Z1.out)
              have G2 := Lib.hid (show (wy.setCell ⟨q2, k + 1, none⟩ (.float .f32 (sm s t d L (k + 1) (k + 1)))).heap[q1]? = some (.cells (C.setIfInBounds (1 + k) (.complex .f32 1065353216 0)) 25 (0, 0)) by rw [heap_setCell_other _ _ _ _ (by show q1 ≠ q2; omega)]; exact G1.out)
              have D2 := Lib.hid (heap_setCell_same _ _ _ _ _ _ D1.out : (wy.setCell ⟨q2, k + 1, none⟩ (.float .f32 (sm s t d L (k + 1) (k + 1)))).heap[q2]? = _)
              have B2 : Hid (Below w.heap.size w (wy.setCell ⟨q2, k + 1, none⟩ (.float .f32 (sm s t d L (k + 1) (k + 1))))) := Lib.hid (B1.out.setCell (by show w.heap.size ≤ q2; omega) _)
              by_cases hb : qq + 1 < s
              · have hdb : decide ((qq : Int) < (s : Int) - 1) = true := by simp; omega
                have hks : k + s < N := hb3.out.1 hb
                have hsb := HSB.out HOK1.out hks e3
                have g5 := fun w => run_float_arith (P := Tryd.prog) w .add 30 .f32 _ _ _ hsb
                have HROW := Lib.hid (row_both s t d L N k (by omega) D HDS.out e3 hks)
                have hp2 : (wy.setCell ⟨q2, k + 1, none⟩ (.float .f32 (sm s t d L (k + 1) (k + 1)))).cell? ⟨q2, k + s, none⟩ = some (.float .f32 (sm s t d L k (k + s))) := by
                  rw [cell_of_row _ _ _ _ _ _ D2.out, Array.getElem?_setIfInBounds, if_neg (by omega)]
                  exact HDS.out.2 (k + s) (by omega) hks
                have hz2 : (wy.setCell ⟨q2, k + 1, none⟩ (.float .f32 (sm s t d L (k + 1) (k + 1)))).frozen? ⟨q2, k + s, none⟩ = false := frozen_of_row _ _ _ _ _ D2.out
                clear hsb
                go_wp2
                exact ⟨⟨k + 1, _, _, by omega, by go_num, HOK1, HSK, Lib.hid (by rw [heap_setCell_other _ _ _ _ (by show q1 ≠ q2; omega)]; exact G2.out), HROW, Lib.hid (heap_setCell_same _ _ _ _ _ _ D2.out), Lib.hid (by rw [heap_setCell_other _ _ _ _ (by show w.heap.size + 1 ≠ q2; omega)]; exact Z2.out), Lib.hid (B2.out.setCell (by show w.heap.size ≤ q2; omega) _)⟩, by simp [intOf]; omega⟩
              · have hdb : decide ((qq : Int) < (s : Int) - 1) = false := by simp; omega
                have HROW := Lib.hid (row_right s t d L N k (by omega) D HDS.out (by have := hb3.out; omega) e2)
                go_wp2
                exact ⟨⟨k + 1, _, _, by omega, by go_num, HOK1, HSK, G2, HROW, D2, Z2, B2⟩, by simp [intOf]; omega⟩
            · have hdr : decide (((k % s : Nat) : Int) < (s : Int) - 1) = false := by simp; omega
              have e0 := HSQ2.out k hlt hr
              by_cases hb : qq + 1 < s
              · have hdb : decide ((qq : Int) < (s : Int) - 1) = true := by simp; omega
                have hks : k + s < N := hb3.out.1 hb
                have hsb := HSB.out HOK1.out hks (by omega)
                have g5 := fun w => run_float_arith (P := Tryd.prog) w .add 30 .f32 _ _ _ hsb
                have HROW := Lib.hid (row_below s t d L N k (by omega) D HDS.out e0 (by omega) hks)
                have hp2 : wy.cell? ⟨q2, k + s, none⟩ = some (.float .f32 (sm s t d L k (k + s))) := by rw [cell_of_row _ _ _ _ _ _ D1.out]; exact HDS.out.2 (k + s) (by omega) hks
                have hz2 : wy.frozen? ⟨q2, k + s, none⟩ = false := frozen_of_row _ _ _ _ _ D1.out
                clear hsb
                go_wp2
                exact ⟨⟨k + 1, _, _, by omega, by go_num, HOK1, HSK, Lib.hid (by rw [heap_setCell_other _ _ _ _ (by show q1 ≠ q2; omega)]; exact G1.out), HROW, Lib.hid (heap_setCell_same _ _ _ _ _ _ D1.out), Lib.hid (by rw [heap_setCell_other _ _ _ _ (by show w.heap.size + 1 ≠ q2; omega)]; exact Z1.out), Lib.hid (B1.out.setCell (by show w.heap.size ≤ q2; omega) _)⟩, by simp [intOf]; omega⟩
              · have hdb : decide ((qq : Int) < (s : Int) - 1) = false := by simp; omega
                have HROW := Lib.hid (row_stay s t d L N k HN.out D HDS.out e0 (by have := hb3.out; omega))
                go_wp2
                exact ⟨⟨k + 1, _, _, by omega, by go_num, HOK1, HSK, G1, HROW, D1, Z1, B1⟩, by simp [intOf]; omega⟩
    · obtain rfl : k = N := by omega
      rw [← HD.out] at HFW
      have HFI : Hid ((Tryd.prog.info? 25).map (·.size) = some C.size) := Lib.hid (by rw [HFW.out.1]; exact HS37.out)
      have HZF : Hid (Z.size = C.size) := Lib.hid (by rw [HFW.out.1]; exact HZ37.out)
      have HF1 := Lib.hid (finW_one HFW.out)
      go_wp2_with (first | fail | (refine wpList_load_row rfl 25 (.tmp 7) rfl q1 rfl 25 C (0, 0) _ G.out Tryd.underlying25 rfl HFI.out ?_) | (refine wpList_store_row rfl 25 (.tmp 4) (.tmp 94) rfl (w.heap.size + 1) C rfl rfl 25 Z Z0.out HFI.out HZF.out HF1.out ?_))
      refine bodyPost_ret (v := .tuple #[.agg C, .int .i64 0]) (results_row_tmp (fn := Tryd.f14) (p := 4) (u := 5) (ty := 25) rfl _ _ (w.heap.size + 1) 25 C (0, 0) _ rfl (setRow_heap _ _ _ _ _ _ Z0.out) Tryd.underlying25 rfl HFI.out) rfl ⟨by rw [HOK.out, ← HD.out]; rfl, ?_⟩
      exact below_setRow B.out (by omega) _

end Go.Proofs.YtjmfffgddmnkmabDoor
