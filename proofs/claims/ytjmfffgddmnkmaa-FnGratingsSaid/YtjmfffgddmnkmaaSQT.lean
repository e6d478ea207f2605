/- The model's quarter turn of a wave. Condition: 64 complex numbers. -/
import Derived.Test.YtjmfffgddmnkmaaS3
import Derived.Test.YtjmfffgddmnkmaaIs
import Derived.Deep.CutBlock
import Derived.Deep.DeepCutAuto
import Derived.Deep.RegionHeld3
namespace Go.Proofs.Ytjmfffgddmnkmaa
open Go Go.RowKit

/-- the cells that are told are filled by a rule, the others 0 -/
def pf (F : Nat → Nat × Nat) (P : Nat → Bool) : Array Value := Array.ofFn (n := 64) fun i => if P i.val = true then .complex .f32 (F i.val).1 (F i.val).2 else .complex .f32 0 0
theorem pf_get (F : Nat → Nat × Nat) (P : Nat → Bool) (i : Nat) : (pf F P)[i]? = if i < 64 then some (if P i = true then .complex .f32 (F i).1 (F i).2 else .complex .f32 0 0) else none := by
  simp only [pf, Array.getElem?_ofFn]
  by_cases h : i < 64 <;> simp [h]
theorem pf_size (F : Nat → Nat × Nat) (P : Nat → Bool) : (pf F P).size = 64 := by simp [pf]
theorem pf_congr (F : Nat → Nat × Nat) (P Q : Nat → Bool) (h : ∀ i, i < 64 → P i = Q i) : pf F P = pf F Q := by
  apply Array.ext_getElem?
  intro i
  rw [pf_get, pf_get]
  by_cases hi : i < 64
  · rw [h i hi]
  · rw [if_neg hi, if_neg hi]
theorem pf_gf (F : Nat → Nat × Nat) (k : Nat) : gf F k = pf F (fun i => decide (i < k)) := by
  apply Array.ext_getElem?
  intro i
  rw [pf_get, gf_get]
  simp
theorem pf_set (s : Int) (F : Nat → Nat × Nat) (P : Nat → Bool) (k : Nat) (hk : k < 64) : (pic s (pf F P)).setIfInBounds (1 + k) (.complex .f32 (F k).1 (F k).2) = pic s (pf F (fun i => P i || i == k)) := by
  apply Array.ext_getElem?
  intro i
  rw [Array.getElem?_setIfInBounds, pic_size _ _ (pf_size F P)]
  cases i with
  | zero => rw [if_neg (by omega), pic_zero, pic_zero]
  | succ i =>
    rw [pic_succ, pic_succ, pf_get, pf_get]
    by_cases h1 : 1 + k = i + 1
    · obtain rfl : k = i := by omega
      simp [hk, show 1 + k = k + 1 by omega]
    · rw [if_neg h1]
      have : (i == k) = false := by simp; omega
      simp [this]
theorem pf_some (s : Int) (F : Nat → Nat × Nat) (P : Nat → Bool) (k : Nat) (hk : k < 64) : ∃ x y, (pic s (pf F P))[1 + k]? = some (.complex .f32 x y) := by
  rw [Nat.add_comm, pic_succ, pf_get, if_pos hk]
  by_cases h : P k = true
  · exact ⟨_, _, by rw [if_pos h]⟩
  · exact ⟨0, 0, by rw [if_neg h]⟩
theorem pf_one (s : Int) (F : Nat → Nat × Nat) (P : Nat → Bool) : (pic s (pf F P)).all (·.oneCell') = true := by
  rw [Array.all_eq_true_iff_forall_mem]
  intro v hv
  obtain ⟨i, hi, he⟩ := Array.mem_iff_getElem.1 hv
  have h := Array.getElem?_eq_getElem hi
  rw [he] at h
  cases i with
  | zero => rw [pic_zero] at h; cases h; rfl
  | succ i =>
    rw [pic_succ, pf_get] at h
    split at h
    · cases h
      split <;> rfl
    · cases h

/-- the cell of the quarter turn at a place -/
def cellQT (s : Nat) (D : Array Value) (i : Nat) : Nat × Nat := (reAt D (s * (s - 1 - i % s) + i / s), imAt D (s * (s - 1 - i % s) + i / s))
/-- the places that are turned to before the row y, the column x -/
def doneQT (s y x i : Nat) : Bool := decide (i < s * s) && (decide (s - 1 - i % s < y) || (decide (s - 1 - i % s = y) && decide (i / s < x)))
theorem doneQT_zero (s : Nat) (i : Nat) : doneQT s 0 0 i = false := by
  unfold doneQT
  simp
theorem doneQT_row (s : Nat) (y : Nat) (i : Nat) : doneQT s y s i = doneQT s (y + 1) 0 i := by
  unfold doneQT
  rw [Bool.eq_iff_iff]
  simp
  intro h
  have : i / s < s := Nat.div_lt_of_lt_mul h
  omega
theorem doneQT_all (s : Nat) (hs : side s = true) (i : Nat) : doneQT s s 0 i = decide (i < s * s) := by
  unfold doneQT
  rw [Bool.eq_iff_iff]
  simp
  intro h
  have : 0 < s := by rcases side_nat s hs with rfl | rfl | rfl | rfl <;> omega
  omega
theorem doneQT_next (s : Nat) (y x : Nat) (hy : y < s) (hx : x < s) (i : Nat) : (doneQT s y x i || i == s * x + (s - 1 - y)) = doneQT s y (x + 1) i := by
  have h0 : 0 < s := by omega
  by_cases he : i = s * x + (s - 1 - y)
  · obtain ⟨e1, e2⟩ := place_at s x (s - 1 - y) (by omega)
    rw [← he] at e1 e2
    have hlt : i < s * s := by
      rw [he]
      calc s * x + (s - 1 - y) < s * x + s := by omega
        _ = s * (x + 1) := by rw [Nat.mul_succ]
        _ ≤ s * s := Nat.mul_le_mul_left _ hx
    have h1 : doneQT s y (x + 1) i = true := by
      unfold doneQT
      rw [e1, e2, show decide (i < s * s) = true by simp [hlt], show decide (s - 1 - (s - 1 - y) = y) = true by simp; omega, show decide (x < x + 1) = true by simp]
      simp
    have h2 : (i == s * x + (s - 1 - y)) = true := by rw [beq_iff_eq]; exact he
    rw [h1, h2, Bool.or_true]
  · have h2 : (i == s * x + (s - 1 - y)) = false := by rw [beq_eq_false_iff_ne]; exact he
    rw [h2, Bool.or_false]
    have hd := Nat.div_add_mod i s
    have hm := Nat.mod_lt i h0
    unfold doneQT
    rw [Bool.eq_iff_iff]
    simp
    intro hlt
    constructor
    · intro h
      omega
    · intro h
      rcases h with h | ⟨h3, h4⟩
      · exact Or.inl h
      · refine Or.inr ⟨h3, ?_⟩
        by_cases h5 : i / s = x
        · exfalso
          apply he
          rw [h5] at hd
          omega
        · omega

theorem cellQT_at (s : Nat) (D : Array Value) (y x : Nat) (hy : y < s) : cellQT s D (s * x + (s - 1 - y)) = (reAt D (s * y + x), imAt D (s * y + x)) := by
  obtain ⟨e1, e2⟩ := place_at s x (s - 1 - y) (by omega)
  unfold cellQT
  rw [e1, e2, show s - 1 - (s - 1 - y) = y by omega]

set_option maxRecDepth 100000 in
set_option maxHeartbeats 800000 in
theorem specQT_no (s : Int) (D : Array Value) (hD : Wav s D) (hw : isWav s D = false) (w : World) : Calls Try.prog 62 #[.agg D] w fun e w' => e = .returned (.tuple #[.agg (pic 0 zc), .int .i64 1]) ∧ Below w.heap.size w w' := by
  have hz37 := (zero_of_info info37').1
  have HS37 := Lib.hid (zero_of_info info37').2
  have HZ37 : Hid ((pic 0 zc).size = 65) := Lib.hid (pic_size 0 zc zc_size)
  have HZ1 := Lib.hid (zc_one 0)
  have hne := pic_ne
  generalize pic 0 zc = Z at *
  have HZI : Hid ((Try.prog.info? 32).map (·.size) = some Z.size) := Lib.hid (by rw [HZ37.out]; exact HS37.out)
  have HDI : Hid ((Try.prog.info? 32).map (·.size) = some D.size) := Lib.hid (by rw [hD.1]; exact HS37.out)
  have HIS := Lib.hid (specIs_any s D hD)
  rw [hw] at HIS
  clear hD
  go_enter Try.func62, Try.ntmps62
  go_wp2_with (first | (refine wpList_load_row rfl 32 (.tmp 1) rfl w.heap.size rfl 32 D (0, 0) _ (h2_0 _ _ _) Try.underlying32 rfl HDI.out ?_))
  refine (HIS.out _).mono ?_
  rintro e w1 ⟨rfl, b1⟩
  have G1 : Hid (w1.heap[w.heap.size + 1]? = some (.cells Z 32)) := Lib.hid (by rw [b1.block _ (by rw [size_al, size_al]; omega)]; exact h2_1 _ _ _)
  have B1 : Hid (Below w.heap.size w w1) := Lib.hid ((below_al2 w _ _).trans (b1.mono (by rw [size_al, size_al]; omega)))
  clear b1
  go_wp2_with (refine wpList_store_row rfl 32 (.tmp 2) (.tmp 11) rfl (w.heap.size + 1) Z rfl rfl 32 Z G1.out HZI.out rfl HZ1.out ?_)
  refine bodyPost_ret (v := .tuple #[.agg Z, .int .i64 1]) (results_row_tmp (fn := Try.f62) (p := 2) (u := 3) (ty := 32) rfl _ _ (w.heap.size + 1) 32 Z (0, 0) _ rfl (setRow_heap _ _ _ _ _ _ G1.out) Try.underlying32 rfl HZI.out) rfl ⟨rfl, ?_⟩
  exact below_setRow B1.out (by omega) _

/-- what stays while the wave for a quarter turn is laid -/
def KeptQ (w : World) (D Z : Array Value) (w' : World) : Prop :=
  w'.heap[w.heap.size]? = some (.cells D 32 (0, 0)) ∧ w'.heap[w.heap.size + 1]? = some (.cells Z 32 (0, 0)) ∧ Below w.heap.size w w'
theorem KeptQ.alloc {w : World} {D Z : Array Value} {v : World} (h : KeptQ w D Z v) (o : Obj) : KeptQ w D Z (v.alloc o) := by
  have l0 := (Array.getElem?_eq_some_iff.1 h.1).1
  have l1 := (Array.getElem?_eq_some_iff.1 h.2.1).1
  exact ⟨by rw [heap_alloc_old _ _ l0]; exact h.1, by rw [heap_alloc_old _ _ l1]; exact h.2.1, h.2.2.alloc (by omega) _⟩
theorem KeptQ.row {w : World} {D Z : Array Value} {v : World} (h : KeptQ w D Z v) (b : Nat) (cs : Array Value) (hb : w.heap.size + 1 < b) : KeptQ w D Z (v.setRow b cs) :=
  ⟨by rw [heap_setRow_other _ _ _ _ (by omega)]; exact h.1, by rw [heap_setRow_other _ _ _ _ (by omega)]; exact h.2.1, below_setRow h.2.2 (by omega) _⟩
theorem KeptQ.lt {w : World} {D Z : Array Value} {v : World} (h : KeptQ w D Z v) : w.heap.size + 1 < v.heap.size := (Array.getElem?_eq_some_iff.1 h.2.1).1

set_option maxRecDepth 100000 in
set_option maxHeartbeats 2000000 in
theorem specQT_yes (s : Nat) (D : Array Value) (hD : Wav s D) (hw : isWav s D = true) (hs : side s = true) (w : World) : Calls Try.prog 62 #[.agg D] w fun e w' => e = .returned (.tuple #[.agg (pic s (gf (cellQT s D) (s * s))), .int .i64 0]) ∧ Below w.heap.size w w' := by
  have hz37 := (zero_of_info info37').1
  have HS37 := Lib.hid (zero_of_info info37').2
  have HZ37 : Hid ((pic 0 zc).size = 65) := Lib.hid (pic_size 0 zc zc_size)
  have HE37 : Hid ((pic s zc).size = 65) := Lib.hid (pic_size s zc zc_size)
  have HE1 : Hid ((pic s zc).all (·.oneCell') = true) := Lib.hid (zc_one s)
  have HEI : Hid ((Try.prog.info? 32).map (·.size) = some (pic s zc).size) := Lib.hid (by rw [HE37.out]; exact HS37.out)
  have HZE : Hid ((pic 0 zc).size = (pic s zc).size) := Lib.hid (by rw [HZ37.out, HE37.out])
  have HE := Lib.hid (empty_any s)
  have hne := pic_ne
  have hs8 : 1 ≤ s ∧ s ≤ 8 := by rcases side_nat s hs with rfl | rfl | rfl | rfl <;> omega
  have HPL : Hid (∀ y x, y < s → x < s → s * y + x < 64 ∧ s * y ≤ 56) := Lib.hid fun y x hy hx => place_lt s y x hs hy hx
  have HDI : Hid ((Try.prog.info? 32).map (·.size) = some D.size) := Lib.hid (by rw [hD.1]; exact HS37.out)
  have HIS := Lib.hid (specIs_any s D hD)
  rw [hw] at HIS
  have HDC : Hid (∀ k, k < 64 → D[1 + k]? = some (.complex .f32 (reAt D k) (imAt D k))) := Lib.hid fun k hk => by
    obtain ⟨x, y, h⟩ := hD.2.2 k hk
    obtain ⟨h1, h2⟩ := at_of D k x y h
    rw [h1, h2]; exact h
  have h0 := hD.2.1
  have HD0 := Lib.hid hD.2.1
  have HF : Hid (∀ y x, y < s → cellQT s D (s * x + (s - 1 - y)) = (reAt D (s * y + x), imAt D (s * y + x))) := Lib.hid fun y x hy => cellQT_at s D y x hy
  have HEND : Hid (pic s (pf (cellQT s D) (doneQT s s 0)) = pic s (gf (cellQT s D) (s * s))) := Lib.hid (by
    rw [pf_gf, pf_congr _ _ _ (fun i _ => doneQT_all s hs i)])
  generalize cellQT s D = F at *
  have HBEG : Hid (pic s zc = pic s (pf F (doneQT s 0 0))) := Lib.hid (by
    rw [← gf_zero F, pf_gf, pf_congr F _ (doneQT s 0 0) (fun i _ => by rw [doneQT_zero]; simp)])
  obtain ⟨E, hE⟩ : ∃ E, E = pic s zc := ⟨_, rfl⟩
  rw [← hE] at HE37 HE1 HEI HZE HE HBEG
  generalize pic 0 zc = Z at *
  clear hE hD
  go_enter Try.func62, Try.ntmps62
  go_wp2_with (first | (refine wpList_load_row rfl 32 (.tmp 1) rfl w.heap.size rfl 32 D (0, 0) _ (h2_0 _ _ _) Try.underlying32 rfl HDI.out ?_))
  refine (HIS.out _).mono ?_
  rintro e w1 ⟨rfl, b1⟩
  have hlw : w.heap.size + 1 + 1 ≤ w1.heap.size := by have := b1.size; rw [size_al, size_al] at this; omega
  have G1 : Hid (w1.heap[w.heap.size + 1]? = some (.cells Z 32)) := Lib.hid (by rw [b1.block _ (by rw [size_al, size_al]; omega)]; exact h2_1 _ _ _)
  have G0 : Hid (w1.heap[w.heap.size]? = some (.cells D 32)) := Lib.hid (by rw [b1.block _ (by rw [size_al, size_al]; omega)]; exact h2_0 _ _ _)
  have B1 : Hid (Below w.heap.size w w1) := Lib.hid ((below_al2 w _ _).trans (b1.mono (by rw [size_al, size_al]; omega)))
  have c0 : w1.cell? ⟨w.heap.size, 0, none⟩ = some (.int .i64 s) := by rw [cell_of_row _ _ _ _ _ _ G0.out]; exact h0
  clear b1 HIS h0
  go_upto_region 3 with fail
  go_cut [4, 5] (fun t4 t5 wx => t4 = .int .i64 s ∧ ∃ b, t5 = .pointer (some ⟨b, 0, none⟩) ∧ w.heap.size + 1 < b ∧ Hid (wx.heap[b]? = some (.cells E 32 (0, 0))) ∧ Hid (wx.heap[w.heap.size]? = some (.cells D 32 (0, 0))) ∧ Hid (wx.heap[w.heap.size + 1]? = some (.cells Z 32 (0, 0))) ∧ Hid (Below w.heap.size w wx))
  case first =>
    have KD : KeptQ w D Z w1.drew := ⟨G0.out, G1.out, below_drewN B1.out 1⟩
    have CC : Hid (∀ w', KeptQ w D Z w' → w'.cell? ⟨w.heap.size, 0, none⟩ = some (.int .i64 s)) := Lib.hid fun w' h => by rw [cell_of_row _ _ _ _ _ _ h.1]; exact HD0.out
    clear B1 G0 G1 c0
    refine wp_region_noPanic ?_
    refine wp_region_held_drew (S := KeptQ w D Z) (by kernel_rfl) KD (fun hHeld => ?_)
    clear KD
    generalize w1.drew = v at *
    refine wpAnyH_take (i := 0) (v := .pointer (some ⟨w.heap.size, 0, none⟩)) rfl (by kernel_rfl) (by kernel_rfl) (by kernel_rfl) (fun _ _ _ h => h) (Or.inl ⟨by rfl, fun w' hSw => by have c0 := CC.out w' hSw; go_simp⟩) hHeld ?_
    simp only [Act.put]
    refine wpAnyH_take (i := 1) (v := .int .i64 s) rfl (by kernel_rfl) (by kernel_rfl) (by kernel_rfl) (fun _ _ _ h => h) (Or.inl ⟨by rfl, fun w' hSw => by have c0 := CC.out w' hSw; go_simp⟩) hHeld ?_
    simp only [Act.put]
    refine wpAnyH_take (i := 2) (v := .pointer (some ⟨w.heap.size, 0, none⟩)) rfl (by kernel_rfl) (by kernel_rfl) (by kernel_rfl) (fun _ _ _ h => h) (Or.inl ⟨by rfl, fun w' hSw => by have c0 := CC.out w' hSw; go_simp⟩) hHeld ?_
    simp only [Act.put]
    refine wpAnyH_take (i := 3) (v := .int .i64 s) rfl (by kernel_rfl) (by kernel_rfl) (by kernel_rfl) (fun _ _ _ h => h) (Or.inl ⟨by rfl, fun w' hSw => by have c0 := CC.out w' hSw; go_simp⟩) hHeld ?_
    simp only [Act.put]
    refine wpAnyH_ready (rs := [4, 5]) (by kernel_rfl) (by simp) ?_
    refine AllReadyH.cons (o := _) rfl (fun K hK => ?_) (AllReadyH.cons (o := _) rfl (fun K hK => ?_) AllReadyH.nil)
    · rw [if_pos (by rfl)]
      go_simp
      refine (HE.out _).mono ?_
      rintro e w' ⟨rfl, rfl⟩
      refine hK.out _ _ (hHeld.alloc _) (fun hHeld2 => ?_)
      clear hK K
      refine wpAnyH_ready (rs := [5]) (by kernel_rfl) (by simp) ?_
      refine AllReadyH.cons (o := _) rfl (fun K hK => ?_) AllReadyH.nil
      rw [if_pos (by rfl)]
      go_simp
      refine hK.out _ _ (hHeld2.alloc _) (fun hHeld3 => ?_)
      clear hK K
      try simp only [Act.put]
      refine wpAnyH_take (i := 6) (v := .int .i64 s) rfl (by kernel_rfl) (by kernel_rfl) (by kernel_rfl) (fun _ _ _ h => h) (Or.inl ⟨by rfl, fun w' hSw => by go_simp⟩) hHeld3 ?_
      refine (show wpAnyH _ _ _ _ _ _ _ (Act.put _ (some 4) _) _ from ?_)
      simp only [Act.put]
      refine wpAnyH_ready (rs := [7]) (by kernel_rfl) (by simp) ?_
      refine AllReadyH.cons (o := _) rfl (fun K hK => ?_) AllReadyH.nil
      rw [if_pos (by rfl)]
      have hB : w.heap.size + 1 < v.heap.size + 1 := by have := hHeld.lt; omega
      refine wp_store_row 32 (.tmp 5) (.tmp 16) rfl (v.heap.size + 1) E rfl rfl 32 Z (h2_1 v (.cells E 32) (.cells Z 32)) HEI.out HZE.out HE1.out ?_
      refine hK.out _ _ (hHeld3.row _ _ hB) (fun hHeld5 => ?_)
      clear hK K
      refine (show wpAnyH _ _ _ _ _ _ _ (Act.put _ none _) _ from ?_)
      simp only [Act.put]
      refine wpAnyH_done (by kernel_rfl) ?_ _
      refine NoPanic.normal ?_
      go_wp2
      go_meet
      refine ⟨rfl, v.heap.size + 1, rfl, hB, Lib.hid (setRow_heap _ _ _ _ _ _ (h2_1 v (.cells E 32) (.cells Z 32))), Lib.hid hHeld5.1, Lib.hid hHeld5.2.1, Lib.hid hHeld5.2.2⟩
    · rw [if_pos (by rfl)]
      go_simp
      refine hK.out _ _ (hHeld.alloc _) (fun hHeld2 => ?_)
      clear hK K
      try simp only [Act.put]
      refine wpAnyH_ready (rs := [4]) (by kernel_rfl) (by simp) ?_
      refine AllReadyH.cons (o := _) rfl (fun K hK => ?_) AllReadyH.nil
      rw [if_pos (by rfl)]
      go_simp
      refine (HE.out _).mono ?_
      rintro e w' ⟨rfl, rfl⟩
      refine hK.out _ _ (hHeld2.alloc _) (fun hHeld3 => ?_)
      clear hK K
      refine wpAnyH_take (i := 6) (v := .int .i64 s) rfl (by kernel_rfl) (by kernel_rfl) (by kernel_rfl) (fun _ _ _ h => h) (Or.inl ⟨by rfl, fun w' hSw => by go_simp⟩) hHeld3 ?_
      refine (show wpAnyH _ _ _ _ _ _ _ (Act.put _ (some 4) _) _ from ?_)
      simp only [Act.put]
      refine wpAnyH_ready (rs := [7]) (by kernel_rfl) (by simp) ?_
      refine AllReadyH.cons (o := _) rfl (fun K hK => ?_) AllReadyH.nil
      rw [if_pos (by rfl)]
      have hB : w.heap.size + 1 < v.heap.size := by have := hHeld.lt; omega
      refine wp_store_row 32 (.tmp 5) (.tmp 16) rfl (v.heap.size) E rfl rfl 32 Z (h2_0 v (.cells Z 32) (.cells E 32)) HEI.out HZE.out HE1.out ?_
      refine hK.out _ _ (hHeld3.row _ _ hB) (fun hHeld5 => ?_)
      clear hK K
      refine (show wpAnyH _ _ _ _ _ _ _ (Act.put _ none _) _ from ?_)
      simp only [Act.put]
      refine wpAnyH_done (by kernel_rfl) ?_ _
      refine NoPanic.normal ?_
      go_wp2
      go_meet
      refine ⟨rfl, v.heap.size, rfl, hB, Lib.hid (setRow_heap _ _ _ _ _ _ (h2_0 v (.cells Z 32) (.cells E 32))), Lib.hid hHeld5.1, Lib.hid hHeld5.2.1, Lib.hid hHeld5.2.2⟩
  case rest =>
  obtain ⟨rfl, b, rfl, hbw, GG, GD, GZ, BB⟩ := hcut
  clear HE HE37 HE1 HEI HZE hz37 hne c0 G0 G1 B1
  go_wp2
  go_loopw [6] (fun i wr => ∃ (y : Nat) (C : Array Value), y ≤ s ∧ i = .int .i64 y ∧ Hid (C = pic s (pf F (doneQT s y 0))) ∧ Hid (wr.heap[b]? = some (.cells C 32 (0, 0))) ∧ Hid (wr.heap[w.heap.size]? = some (.cells D 32 (0, 0))) ∧ Hid (wr.heap[w.heap.size + 1]? = some (.cells Z 32 (0, 0))) ∧ Hid (Below w.heap.size w wr)) (fun i _ => s - (intOf i).toNat)
  case atStart => exact ⟨0, E, by omega, rfl, HBEG, GG, GD, GZ, BB⟩
  case round =>
    obtain ⟨y, C, hy, rfl, HC, G, D0, Z0, B⟩ := hrel
    by_cases hlt : y < s
    · have hdy : decide ((y : Int) < (s : Int)) = true := by simp; omega
      go_wp2
      go_loopw [7] (fun i wr => ∃ (x : Nat) (C : Array Value), x ≤ s ∧ i = .int .i64 x ∧ Hid (C = pic s (pf F (doneQT s y x))) ∧ Hid (wr.heap[b]? = some (.cells C 32 (0, 0))) ∧ Hid (wr.heap[w.heap.size]? = some (.cells D 32 (0, 0))) ∧ Hid (wr.heap[w.heap.size + 1]? = some (.cells Z 32 (0, 0))) ∧ Hid (Below w.heap.size w wr)) (fun i _ => s - (intOf i).toNat)
      case atStart => exact ⟨0, C, by omega, rfl, HC, G, D0, Z0, B⟩
      case round =>
        obtain ⟨x, K, hx, rfl, HK, G, D0, Z0, B⟩ := hrel
        by_cases hlt2 : x < s
        · have hdx : decide ((x : Int) < (s : Int)) = true := by simp; omega
          obtain ⟨hj, hj'⟩ := HPL.out y x hlt hlt2
          obtain ⟨hk, hk'⟩ := HPL.out x (s - 1 - y) hlt2 (by omega)
          have hw1 : IntKind.i64.wrap ((s : Int) * (y : Int)) = ((s * y : Nat) : Int) := by rw [← Int.natCast_mul]; exact IntWalk.i64_in _ (by omega)
          have hw2 : IntKind.i64.wrap ((s : Int) * (x : Int)) = ((s * x : Nat) : Int) := by rw [← Int.natCast_mul]; exact IntWalk.i64_in _ (by omega)
          have HFF := Lib.hid (HF.out y x hlt)
          have HNX : Hid (pf F (fun i => doneQT s y x i || i == s * x + (s - 1 - y)) = pf F (doneQT s y (x + 1))) := Lib.hid (pf_congr F _ _ (fun i _ => doneQT_next s y x hlt hlt2 i))
          have HSET : Hid (K.setIfInBounds (1 + (s * x + (s - 1 - y))) (.complex .f32 (reAt D (s * y + x)) (imAt D (s * y + x))) = pic s (pf F (doneQT s y (x + 1)))) := Lib.hid (by
            have h := pf_set s F (doneQT s y x) (s * x + (s - 1 - y)) hk
            rw [HFF.out] at h
            rw [HK.out, h, HNX.out])
          obtain ⟨ox, oy, hold0⟩ := pf_some s F (doneQT s y x) (s * x + (s - 1 - y)) hk
          have hold : wr.cell? ⟨b, 1 + (s * x + (s - 1 - y)), none⟩ = some (.complex .f32 ox oy) := by
            rw [cell_of_row _ _ _ _ _ _ G.out, HK.out]; exact hold0
          have hsrc : wr.cell? ⟨w.heap.size, 1 + (s * y + x), none⟩ = some (.complex .f32 (reAt D (s * y + x)) (imAt D (s * y + x))) := by
            rw [cell_of_row _ _ _ _ _ _ D0.out]; exact HDC.out _ hj
          have hfree : wr.frozen? ⟨b, 1 + (s * x + (s - 1 - y)), none⟩ = false := frozen_of_row _ _ _ _ _ G.out
          have hw3 : IntKind.i64.wrap (((s * y : Nat) : Int) + (x : Int)) = ((s * y + x : Nat) : Int) := by rw [Int.natCast_add]; exact IntWalk.i64_in _ (by omega)
          have hw4 : IntKind.i64.wrap (((s * x : Nat) : Int) + (s : Int)) = ((s * x + s : Nat) : Int) := by rw [Int.natCast_add]; exact IntWalk.i64_in _ (by omega)
          have hw5 : IntKind.i64.wrap (((s * x + s : Nat) : Int) - 1) = ((s * x + s - 1 : Nat) : Int) := by rw [IntWalk.i64_in _ (by omega)]; omega
          have hw6 : IntKind.i64.wrap (((s * x + s - 1 : Nat) : Int) - (y : Int)) = ((s * x + (s - 1 - y) : Nat) : Int) := by rw [IntWalk.i64_in _ (by omega)]; omega
          clear HFF HNX hold0 HF
          generalize reAt D (s * y + x) = X at *
          generalize imAt D (s * y + x) = Y at *
          generalize s * y + x = j at *
          generalize s * x + (s - 1 - y) = k at *
          generalize s * x + s - 1 = q1 at *
          generalize s * x + s = q2 at *
          generalize s * x = q3 at *
          generalize s * y = q4 at *
          have hj2 : (j : Int) < 64 := by omega
          have hk2 : (k : Int) < 64 := by omega
          go_wp2_with fail
          refine ⟨⟨x + 1, K.setIfInBounds (1 + k) (.complex .f32 X Y), by omega, by go_num, HSET, Lib.hid (heap_setCell_same _ _ _ _ _ _ G.out), Lib.hid (by rw [heap_setCell_other _ _ _ _ (by show w.heap.size ≠ b; omega)]; exact D0.out), Lib.hid (by rw [heap_setCell_other _ _ _ _ (by show w.heap.size + 1 ≠ b; omega)]; exact Z0.out), Lib.hid (B.out.setCell (by show w.heap.size ≤ b; omega) _)⟩, by simp [intOf]; omega⟩
        · obtain rfl : x = s := by omega
          go_wp2
          exact ⟨⟨y + 1, K, by omega, by go_num, Lib.hid (by rw [HK.out, pf_congr F _ _ (fun i _ => doneQT_row x y i)]), G, D0, Z0, B⟩, by simp [intOf]; omega⟩
    · obtain rfl : y = s := by omega
      have HCE : Hid (C = pic y (gf F (y * y))) := Lib.hid (by rw [HC.out, HEND.out])
      have HC1 : Hid (C.all (·.oneCell') = true) := Lib.hid (by rw [HCE.out]; exact gf_wav_one _ _ _)
      have HCI : Hid ((Try.prog.info? 32).map (·.size) = some C.size) := Lib.hid (by rw [HCE.out, pic_size _ _ (gf_size _ _)]; exact HS37.out)
      have HZC : Hid (Z.size = C.size) := Lib.hid (by rw [HCE.out, pic_size _ _ (gf_size _ _)]; exact HZ37.out)
      go_wp2_with (first | (refine wpList_load_row rfl 32 (.tmp 5) rfl b rfl 32 C (0, 0) _ G.out Try.underlying32 rfl HCI.out ?_) | (refine wpList_store_row rfl 32 (.tmp 2) (.tmp 45) rfl (w.heap.size + 1) C rfl rfl 32 Z Z0.out HCI.out HZC.out HC1.out ?_))
      refine bodyPost_ret (v := .tuple #[.agg C, .int .i64 0]) (results_row_tmp (fn := Try.f62) (p := 2) (u := 3) (ty := 32) rfl _ _ (w.heap.size + 1) 32 C (0, 0) _ rfl (setRow_heap _ _ _ _ _ _ Z0.out) Try.underlying32 rfl HCI.out) rfl ⟨by rw [HCE.out], ?_⟩
      exact below_setRow B.out (by omega) _
end Go.Proofs.Ytjmfffgddmnkmaa
