/- The program's flood, as it begins: one cell is met. Condition: a map and a mask of one side. -/
import Derived.Test.YtjmfffgddmnkmacFdd
import Derived.Test.YtjmfffgddmnkmacMk
import Derived.Deep.CutBlock
import Derived.Deep.DeepCutAuto
namespace Go.Proofs.Ytjmfffgddmnkmac
open Go Go.RowKit
attribute [local go_sem ↓] Go.wp_at_zero Go.wp_at_succ

/-- a flood's row as it is made -/
def flRow (x y : Value) (m : Nat) (z : Value) : Array Value := #[x, y, .int .i64 m] ++ Array.replicate 64 (.bool false) ++ #[z]
theorem built_flood (b cap N m g q : Nat) (w : World) : (Instr.build 78 #[(0, .agg #[.slice (some ⟨b, 0, none⟩) N cap, .slice (some ⟨g, 0, none⟩) N N]), (1, .int .i64 m), (3, .slice (some ⟨q, 0, none⟩) 1 1)]).run Try.prog w =
    .ok (.agg (flRow (.slice (some ⟨b, 0, none⟩) N cap) (.slice (some ⟨g, 0, none⟩) N N) m (.slice (some ⟨q, 0, none⟩) 1 1))) w := run_build w _ _ _ (by kernel_rfl)

/-- the row while the mask is read -/
def FlPre (p b g m N cap q : Nat) (D : Array Value) (k : Nat) (w : World) : Prop :=
  ∃ cs, w.heap[p]? = some (.cells cs 78 (0, 0)) ∧ cs.size = 68 ∧ cs[0]? = some (.slice (some ⟨b, 0, none⟩) N cap) ∧ cs[1]? = some (.slice (some ⟨g, 0, none⟩) N N) ∧ cs[2]? = some (.int .i64 m) ∧ cs[67]? = some (.slice (some ⟨q, 0, none⟩) 1 1) ∧
    ∀ i, i < 64 → cs[3 + i]? = some (.bool (if i < k then open_ D i else false))
theorem flPre_start {p b g m N cap q : Nat} {D : Array Value} {w : World} (h : w.heap[p]? = some (.cells (flRow (.slice (some ⟨b, 0, none⟩) N cap) (.slice (some ⟨g, 0, none⟩) N N) m (.slice (some ⟨q, 0, none⟩) 1 1)) 78 (0, 0))) : FlPre p b g m N cap q D 0 w := by
  refine ⟨_, h, by simp [flRow], by simp [flRow], by simp [flRow], by simp [flRow], by kernel_rfl, fun i hi => ?_⟩
  rw [if_neg (by omega)]
  unfold flRow
  rw [Array.getElem?_append_left (by simp; omega), Array.getElem?_append_right (by simp)]
  simp [hi]
theorem flPre_step {p b g m N cap q k : Nat} {D : Array Value} {w : World} (h : FlPre p b g m N cap q D k w) (hk : k < 64) : FlPre p b g m N cap q D (k + 1) (w.setCell ⟨p, 3 + k, none⟩ (.bool (open_ D k))) := by
  obtain ⟨cs, r0, r1, r2, r3, r4, r5, r6⟩ := h
  refine ⟨_, heap_setCell_same _ _ _ _ _ _ r0, by rw [Array.size_setIfInBounds]; exact r1, ?_, ?_, ?_, ?_, fun i hi => ?_⟩
  · rw [Array.getElem?_setIfInBounds_ne (by omega)]; exact r2
  · rw [Array.getElem?_setIfInBounds_ne (by omega)]; exact r3
  · rw [Array.getElem?_setIfInBounds_ne (by omega)]; exact r4
  · rw [Array.getElem?_setIfInBounds_ne (by omega)]; exact r5
  · by_cases e : k = i
    · subst e
      rw [Array.getElem?_setIfInBounds_self_of_lt (by omega), if_pos (by omega)]
    · rw [Array.getElem?_setIfInBounds_ne (by omega), r6 i hi]
      by_cases h1 : i < k
      · rw [if_pos h1, if_pos (by omega)]
      · rw [if_neg h1, if_neg (by omega)]
theorem own_setOther {B g n cap p j : Nat} {U : List Int} {w : World} {x : Value} (h : Own B (.slice (some ⟨g, 0, none⟩) n cap) U w) (hp : p ≠ g) : Own B (.slice (some ⟨g, 0, none⟩) n cap) U (w.setCell ⟨p, j, none⟩ x) :=
  World.ownsRow.kept h (row := some p) ⟨rfl, rfl, rfl, by show _ ≤ (w.setCell _ _).heap.size; rw [World.size_setCell]; exact Nat.le_refl _, fun k _ hne => Below.heap_setCell _ _ _ _ (fun e => hne (by rw [e]))⟩ (.inr (fun e => hp (by simp only [Value.ownBlock, Option.some.injEq] at e; exact e.symm)))
theorem flPre_end {B p b g m N cap q P : Nat} {L : List Int} {D : Array Value} {w : World} (h : FlPre p b g m N cap q D 64 w) (hO : Own B (.slice (some ⟨g, 0, none⟩) N N) ((List.replicate N 0).set P (L.getD P 0)) (w.setCell ⟨p, 3 + P, none⟩ (.bool false)))
    (hQ : Qu B (.slice (some ⟨q, 0, none⟩) 1 1) [(P : Int)] (w.setCell ⟨p, 3 + P, none⟩ (.bool false))) (hA : p ≠ g ∧ q ≠ p ∧ q ≠ g ∧ B ≤ p ∧ B ≤ g) (hP : P < 64) : FlM B p b g m N cap (flo0 N P L (open_ D)) 0 (w.setCell ⟨p, 3 + P, none⟩ (.bool false)) := by
  obtain ⟨cs, r0, r1, r2, r3, r4, r5, r6⟩ := h
  refine ⟨_, _, heap_setCell_same _ _ _ _ _ _ r0, by rw [Array.size_setIfInBounds]; exact r1, ?_, ?_, ?_, fun i hi => ?_, ?_, hQ, fun e => hA.2.1 (by simpa [Value.ownBlock] using e), fun e => hA.2.2.1 (by simpa [Value.ownBlock] using e), hO, hA.1, hA.2.2.2.1, hA.2.2.2.2⟩
  · rw [Array.getElem?_setIfInBounds_ne (by omega)]; exact r2
  · rw [Array.getElem?_setIfInBounds_ne (by omega)]; exact r3
  · rw [Array.getElem?_setIfInBounds_ne (by omega)]; exact r4
  · show _ = some (Value.bool ((((List.range 64).map (open_ D)).set P false).getD i false))
    by_cases e : P = i
    · rw [← e, Array.getElem?_setIfInBounds_self_of_lt (by omega), getD_set_same _ _ _ _ (by simp; omega)]
    · rw [Array.getElem?_setIfInBounds_ne (by omega), r6 i hi, if_pos hi, getD_set_ne _ _ _ _ _ e, range_get _ _ hi]
  · rw [Array.getElem?_setIfInBounds_ne (by omega)]; exact r5

set_option maxRecDepth 100000 in
set_option maxHeartbeats 6400000 in
theorem floodFrom_any (b cap N m P : Nat) (L : List Int) (D : Array Value) (hD : Wav m D) (w : World) (hN : N ≤ 64) (hP : P < N) (hL : L.length = N) (hb : b < w.heap.size) (hc : w.cell? ⟨b, P, none⟩ = some (.int .i64 (L.getD P 0))) :
    Calls Try.prog 47 #[.slice (some ⟨b, 0, none⟩) N cap, .agg D, .int .i64 P] w fun e w' => ∃ p g, e = .returned (.pointer (some ⟨p, 0, none⟩)) ∧ FlM w.heap.size p b g m N cap (flo0 N P L (open_ D)) 0 w' ∧ Below w.heap.size w w' := by
  have HDI : Hid ((Try.prog.info? 33).map (·.size) = some D.size) := Lib.hid (by rw [hD.1]; exact (zero_of_info info37').2)
  have HS := Lib.hid size35
  obtain ⟨zs, hzs⟩ : ∃ zs, zs = D.extract 1 65 := ⟨_, rfl⟩
  have HZS : Hid (zs.size = 64) := Lib.hid (by rw [hzs]; simp [hD.1])
  have HZI : Hid ((Try.prog.info? 31).map (·.size) = some zs.size) := Lib.hid (by rw [HZS.out]; exact HS.out)
  have HZG : Hid (∀ j, j < zs.size → D[1 + j]? = zs[j]?) := Lib.hid fun j hj => by rw [HZS.out] at hj; rw [hzs, ext_get D hD.1 j hj]
  have HX : Hid (∀ k : Nat, k < 64 → ∃ x y, (∀ w, (Instr.index 31 (.agg zs) (.int .i64 (k : Int))).run Try.prog w = .ok (.complex .f32 x y) w) ∧ reAt D k = x ∧ imAt D k = y) := Lib.hid fun k hk => by
    obtain ⟨x, y, h⟩ := hD.2.2 k hk
    obtain ⟨e1, e2⟩ := at_of D k x y h
    refine ⟨x, y, fun w => ?_, e1, e2⟩
    have h2 : zs[k]? = some (.complex .f32 x y) := by rw [hzs, ext_get D hD.1 k hk]; exact h
    have a := Try.isAgg30
    simp [Instr.index, run_underlying Try.underlying31, asIntOf, go_sem]
    rw [if_pos hk, h2]
    rfl
  have HUF := Lib.hid (fun W (h1 : b < W.heap.size) (h2 : W.cell? ⟨b, P, none⟩ = some (.int .i64 (L.getD P 0))) => unwrapFrom_any b cap N P L W hP hN hL h1 h2)
  have HB := Lib.hid hb
  have HC := Lib.hid hc
  have c0 : (w.alloc (.cells D 33)).cell? ⟨w.heap.size, 0, none⟩ = some (.int .i64 m) := by rw [cell_of_row _ _ _ _ _ _ (heap_alloc_new w _)]; exact hD.2.1
  clear hzs HS hb hc hL
  go_enter Try.func47, Try.ntmps47
  go_wp2_with fail
  have G0 : Hid ((w.alloc (.cells D 33)).heap[w.heap.size]? = some (.cells D 33 (0, 0))) := Lib.hid (h1_0 _ _)
  have B0 : Hid (Below w.heap.size w (w.alloc (.cells D 33))) := Lib.hid ((Below.refl _ _).alloc (Nat.le_refl _) _)
  have HV : (w.alloc (.cells D 33)).heap.size = w.heap.size + 1 := World.size_alloc _ _
  have hb1 : b < (w.alloc (.cells D 33)).heap.size := by rw [HV]; have := HB.out; omega
  have hc1 : (w.alloc (.cells D 33)).cell? ⟨b, P, none⟩ = some (.int .i64 (L.getD P 0)) := (World.cell?_alloc_past _ _ _ HB.out).trans HC.out
  generalize w.alloc (.cells D 33) = v at *
  have HK0 := Lib.hid (And.intro hb1 (And.intro hc1 c0))
  clear hc1 c0 hb1
  go_upto_region 1 with fail
  go_cut [7] (fun x wx => ∃ p g q, x = .pointer (some ⟨p, 0, none⟩) ∧ Hid (wx.heap[p]? = some (.cells (flRow (.slice (some ⟨b, 0, none⟩) N cap) (.slice (some ⟨g, 0, none⟩) N N) m (.slice (some ⟨q, 0, none⟩) 1 1)) 78 (0, 0))) ∧
    Hid (Own w.heap.size (.slice (some ⟨g, 0, none⟩) N N) ((List.replicate N 0).set P (L.getD P 0)) wx) ∧ Hid (Qu w.heap.size (.slice (some ⟨q, 0, none⟩) 1 1) [(P : Int)] wx) ∧ Hid (p ≠ g ∧ q ≠ p ∧ q ≠ g ∧ w.heap.size ≤ p ∧ w.heap.size ≤ g) ∧ Hid (Below v.heap.size v wx))
  case first =>
    refine wp_region_noPanic ?_
    refine wp_region_held_drew (S := Below v.heap.size v) (by kernel_rfl) (below_drewN (Below.refl _ _) 1) (fun h1 => ?_)
    have HCC : Hid (∀ w', Below v.heap.size v w' → w'.cell? ⟨w.heap.size, 0, none⟩ = some (.int .i64 m)) := Lib.hid (fun w' hS => (hS.cell (p := ⟨w.heap.size, 0, none⟩) (show w.heap.size < v.heap.size by omega)).trans HK0.out.2.2)
    refine wpAnyH_take (i := 0) (v := .slice (some ⟨b, 0, none⟩) N cap) rfl (by kernel_rfl) (by kernel_rfl) (by kernel_rfl) (fun _ _ _ h => h) (Or.inl ⟨by rfl, fun w' hS => by go_simp⟩) h1 ?_
    simp only [Act.put]
    refine wpAnyH_take (i := 1) (v := .int .i64 P) rfl (by kernel_rfl) (by kernel_rfl) (by kernel_rfl) (fun _ _ _ h => h) (Or.inl ⟨by rfl, fun w' hS => by go_simp⟩) h1 ?_
    simp only [Act.put]
    refine wpAnyH_take (i := 3) (v := .pointer (some ⟨w.heap.size, 0, none⟩)) rfl (by kernel_rfl) (by kernel_rfl) (by kernel_rfl) (fun _ _ _ h => h) (Or.inl ⟨by rfl, fun w' hS => by go_simp⟩) h1 ?_
    simp only [Act.put]
    refine wpAnyH_take (i := 4) (v := .int .i64 m) rfl (by kernel_rfl) (by kernel_rfl) (by kernel_rfl) (fun _ _ _ h => h) (Or.inl ⟨by rfl, fun w' hS => by have c0 := HCC.out w' hS; go_simp⟩) h1 ?_
    simp only [Act.put]
    refine wpAnyH_take (i := 5) (v := .int .i64 P) rfl (by kernel_rfl) (by kernel_rfl) (by kernel_rfl) (fun _ _ _ h => h) (Or.inl ⟨by rfl, fun w' hS => by go_simp⟩) h1 ?_
    simp only [Act.put]
    refine wpAnyH_ready (rs := [2, 6]) (by kernel_rfl) (by simp) ?_
    refine AllReadyH.cons (o := _) rfl (fun K hK => ?_) (AllReadyH.cons (o := _) rfl (fun K hK => ?_) AllReadyH.nil)
    · rw [if_pos (by rfl)]
      go_simp
      refine (HUF.out v.drew HK0.out.1 HK0.out.2.1).mono ?_
      rintro e w1 ⟨g, rfl, o1, b1⟩
      refine hK.out _ _ (h1.trans b1) (fun hA => ?_)
      clear hK K
      refine wpAnyH_ready (rs := [6]) (by kernel_rfl) (by simp) ?_
      refine AllReadyH.cons (o := _) rfl (fun K hK => ?_) AllReadyH.nil
      rw [if_pos (by rfl)]
      go_simp
      refine hK.out _ _ (hA.alloc hA.size _) (fun hB => ?_)
      clear hK K
      try simp only [Act.put]
      refine wpAnyH_take (i := 7) (v := .agg (flRow (.slice (some ⟨b, 0, none⟩) N cap) (.slice (some ⟨g, 0, none⟩) N N) m (.slice (some ⟨w1.heap.size, 0, none⟩) 1 1))) rfl (by kernel_rfl) (by kernel_rfl) (by kernel_rfl) (fun _ _ _ h => h) (Or.inl ⟨by rfl, fun w' hS => by go_simp; kernel_rfl⟩) hB ?_
      refine (show wpAnyH _ _ _ _ _ _ _ (Act.put _ (some 17) _) _ from ?_)
      simp only [Act.put]
      refine wpAnyH_ready (rs := [8]) (by kernel_rfl) (by simp) ?_
      refine AllReadyH.cons (o := _) rfl (fun K hK => ?_) AllReadyH.nil
      rw [if_pos (by rfl)]
      have HRW : Hid (∃ row, row = flRow (.slice (some ⟨b, 0, none⟩) N cap) (.slice (some ⟨g, 0, none⟩) N N) m (.slice (some ⟨w1.heap.size, 0, none⟩) 1 1)) := Lib.hid ⟨_, rfl⟩
      obtain ⟨row, hrow⟩ := HRW.out
      rw [← hrow]
      have HROW := Lib.hid hrow
      clear hrow HRW
      go_simp
      refine hK.out _ _ (hB.alloc hB.size _) (fun hC => ?_)
      clear hK K
      try simp only [Act.put]
      refine wpAnyH_take (i := 9) (v := .pointer (some ⟨w1.heap.size + 1, 0, none⟩)) rfl (by kernel_rfl) (by kernel_rfl) (by kernel_rfl) (fun _ _ _ h => h) (Or.inl ⟨by rfl, fun w' hS => by go_simp⟩) hC ?_
      refine (show wpAnyH _ _ _ _ _ _ _ (Act.put _ (some 7) _) _ from ?_)
      simp only [Act.put]
      refine wpAnyH_done (by kernel_rfl) (NoPanic.normal ?_) _
      go_wp2_with fail
      go_meet
      have hg1 : v.heap.size ≤ g ∧ g < w1.heap.size := by
        obtain ⟨g', c', e', h1', h2'⟩ := o1.form (by rw [List.length_set, List.length_replicate]; omega)
        simp only [Value.slice.injEq, Option.some.injEq, Addr.mk.injEq, and_true] at e'
        exact ⟨by have h3 : v.drew.heap.size ≤ g' := h1'; have h4 : v.drew.heap.size = v.heap.size := rfl; omega, by omega⟩
      have hk1 : v.heap.size ≤ w1.heap.size := b1.size
      refine ⟨w1.heap.size + 1, g, w1.heap.size, rfl, Lib.hid ?_, Lib.hid (((o1.mono (show w.heap.size ≤ v.heap.size by omega)).alloc _).alloc _), Lib.hid ((Qu.single w.heap.size (P : Int) w1 (by omega)).alloc _), Lib.hid ⟨by omega, by omega, by omega, by omega, by omega⟩, Lib.hid hC⟩
      rw [← HROW.out]
      have e1 : (w1.alloc (.cells #[.int .i64 (P : Int)] 2)).heap.size = w1.heap.size + 1 := World.size_alloc _ _
      have e2 := heap_alloc_new (w1.alloc (.cells #[.int .i64 (P : Int)] 2)) (.cells row 78 (0, 0))
      rw [e1] at e2
      exact e2
    · rw [if_pos (by rfl)]
      go_simp
      refine hK.out _ _ (h1.alloc h1.size _) (fun hA => ?_)
      clear hK K
      try simp only [Act.put]
      have hsz : (v.alloc (.cells #[.int .i64 (P : Int)] 2)).drew.heap.size = v.heap.size + 1 := World.size_alloc _ _
      have hc2 : (v.alloc (.cells #[.int .i64 (P : Int)] 2)).drew.cell? ⟨b, P, none⟩ = some (.int .i64 (L.getD P 0)) := (World.cell?_alloc_past _ _ _ HK0.out.1).trans HK0.out.2.1
      have hq0 : Hid (Qu w.heap.size (.slice (some ⟨v.heap.size, 0, none⟩) 1 1) [(P : Int)] (v.alloc (.cells #[.int .i64 (P : Int)] 2)).drew) := Lib.hid (Qu.single w.heap.size (P : Int) v (by omega)).drew
      generalize (v.alloc (.cells #[.int .i64 (P : Int)] 2)).drew = v1 at *
      refine wpAnyH_ready (rs := [2]) (by kernel_rfl) (by simp) ?_
      refine AllReadyH.cons (o := _) rfl (fun K hK => ?_) AllReadyH.nil
      rw [if_pos (by rfl)]
      go_simp
      refine (HUF.out v1 (by have := HK0.out.1; omega) hc2).mono ?_
      rintro e w1 ⟨g, rfl, o1, b1⟩
      refine hK.out _ _ (hA.trans (b1.mono hA.size)) (fun hB => ?_)
      clear hK K
      try simp only [Act.put]
      refine wpAnyH_take (i := 7) (v := .agg (flRow (.slice (some ⟨b, 0, none⟩) N cap) (.slice (some ⟨g, 0, none⟩) N N) m (.slice (some ⟨v.heap.size, 0, none⟩) 1 1))) rfl (by kernel_rfl) (by kernel_rfl) (by kernel_rfl) (fun _ _ _ h => h) (Or.inl ⟨by rfl, fun w' hS => by go_simp; kernel_rfl⟩) hB ?_
      refine (show wpAnyH _ _ _ _ _ _ _ (Act.put _ (some 17) _) _ from ?_)
      simp only [Act.put]
      refine wpAnyH_ready (rs := [8]) (by kernel_rfl) (by simp) ?_
      refine AllReadyH.cons (o := _) rfl (fun K hK => ?_) AllReadyH.nil
      rw [if_pos (by rfl)]
      have HRW : Hid (∃ row, row = flRow (.slice (some ⟨b, 0, none⟩) N cap) (.slice (some ⟨g, 0, none⟩) N N) m (.slice (some ⟨v.heap.size, 0, none⟩) 1 1)) := Lib.hid ⟨_, rfl⟩
      obtain ⟨row, hrow⟩ := HRW.out
      rw [← hrow]
      have HROW := Lib.hid hrow
      clear hrow HRW
      go_simp
      refine hK.out _ _ (hB.alloc hB.size _) (fun hC => ?_)
      clear hK K
      try simp only [Act.put]
      refine wpAnyH_take (i := 9) (v := .pointer (some ⟨w1.heap.size, 0, none⟩)) rfl (by kernel_rfl) (by kernel_rfl) (by kernel_rfl) (fun _ _ _ h => h) (Or.inl ⟨by rfl, fun w' hS => by go_simp⟩) hC ?_
      refine (show wpAnyH _ _ _ _ _ _ _ (Act.put _ (some 7) _) _ from ?_)
      simp only [Act.put]
      refine wpAnyH_done (by kernel_rfl) (NoPanic.normal ?_) _
      go_wp2_with fail
      go_meet
      have hg1 : v.heap.size + 1 ≤ g ∧ g < w1.heap.size := by
        obtain ⟨g', c', e', h1', h2'⟩ := o1.form (by rw [List.length_set, List.length_replicate]; omega)
        simp only [Value.slice.injEq, Option.some.injEq, Addr.mk.injEq, and_true] at e'
        omega
      have hk1 : v1.heap.size ≤ w1.heap.size := b1.size
      have hq1 : v.heap.size = w.heap.size + 1 := HV
      refine ⟨w1.heap.size, g, w.heap.size + 1, rfl, Lib.hid ?_, Lib.hid ((o1.mono (show w.heap.size ≤ v1.heap.size by omega)).alloc _), Lib.hid (Qu.alloc (by rw [← hq1]; exact hq0.out.below b1 (Nat.le_refl _)) _), Lib.hid ⟨by omega, by omega, by omega, by omega, by omega⟩, Lib.hid hC⟩
      rw [← hq1, ← HROW.out]
      exact heap_alloc_new w1 _
  case rest =>
  obtain ⟨p, g, q, rfl, R1, O1, Q1, A1, K1⟩ := hcut
  have KW := Lib.hid (B0.out.trans (K1.out.mono (show w.heap.size ≤ v.heap.size by omega)))
  have GD := Lib.hid ((K1.out.block w.heap.size (show w.heap.size < v.heap.size by omega)).trans G0.out)
  have RR := Lib.hid (flPre_start (D := D) R1.out)
  clear R1 HK0 HUF
  go_wp2_with (first | fail | (refine wpList_load_part rfl 31 (.tmp 19) rfl w.heap.size 1 rfl zs _ 33 D (0, 0) GD.out HZG.out Try.underlying31 rfl HZI.out ?_))
  go_loopw [21] (fun i wr => ∃ k : Nat, k ≤ 64 ∧ i = .int .i64 k ∧ Hid (FlPre p b g m N cap q D k wr) ∧ Hid (Own w.heap.size (.slice (some ⟨g, 0, none⟩) N N) ((List.replicate N 0).set P (L.getD P 0)) wr) ∧ Hid (Qu w.heap.size (.slice (some ⟨q, 0, none⟩) 1 1) [(P : Int)] wr) ∧ Hid (Below w.heap.size w wr)) (fun i _ => 64 - (intOf i).toNat)
  case atStart => exact ⟨0, by omega, rfl, RR, O1, Q1, KW⟩
  case round =>
    obtain ⟨k, hk, rfl, R, O, Q, K⟩ := hrel
    obtain ⟨cs, r0, r1, r2, r3, r4, r5, r6⟩ := R.out
    by_cases hlt : k < 64
    · have hdk : decide ((k : Int) < 64) = true := by simp; omega
      obtain ⟨x, y, hX, ex, ey⟩ := HX.out k hlt
      have ho : one x y = open_ D k := by unfold open_; rw [ex, ey]
      have ho' : (FloatKind.f32.format.order x 1065353216 == some .eq && FloatKind.f32.format.order y 0 == some .eq) = open_ D k := ho
      have hc3 : wr.cell? ⟨p, 3 + k, none⟩ = some (.bool false) := by rw [cell_of_row _ _ _ _ _ _ r0, r6 k hlt, if_neg (Nat.lt_irrefl k)]
      have hz3 : wr.frozen? ⟨p, 3 + k, none⟩ = false := frozen_of_row _ _ _ _ _ r0
      have R2 : Hid (FlPre p b g m N cap q D (k + 1) (wr.setCell ⟨p, 3 + k, none⟩ (.bool (open_ D k)))) := Lib.hid (flPre_step R.out hlt)
      have O2 : Hid (Own w.heap.size (.slice (some ⟨g, 0, none⟩) N N) ((List.replicate N 0).set P (L.getD P 0)) (wr.setCell ⟨p, 3 + k, none⟩ (.bool (open_ D k)))) := Lib.hid (own_setOther O.out A1.out.1)
      have Q2 : Hid (Qu w.heap.size (.slice (some ⟨q, 0, none⟩) 1 1) [(P : Int)] (wr.setCell ⟨p, 3 + k, none⟩ (.bool (open_ D k)))) := Lib.hid (Q.out.setCell (fun e => A1.out.2.1 (by simpa [Value.ownBlock] using e)))
      have K2 : Hid (Below w.heap.size w (wr.setCell ⟨p, 3 + k, none⟩ (.bool (open_ D k)))) := Lib.hid (K.out.setCell (p := ⟨p, 3 + k, none⟩) A1.out.2.2.2.1 _)
      clear r0 r1 r2 r3 r4 r5 r6 ho ex ey
      generalize open_ D k = ob at *
      go_wp2_with fail
      exact ⟨⟨k + 1, by omega, by go_num, R2, O2, Q2, K2⟩, by simp [intOf]; omega⟩
    · obtain rfl : k = 64 := by omega
      have hc3 : wr.cell? ⟨p, 3 + P, none⟩ = some (.bool (open_ D P)) := by rw [cell_of_row _ _ _ _ _ _ r0, r6 P (by omega), if_pos (by omega)]
      have hz3 : wr.frozen? ⟨p, 3 + P, none⟩ = false := frozen_of_row _ _ _ _ _ r0
      have hP0 : (0 : Int) ≤ (P : Int) := by omega
      have hP64 : (P : Int) < 64 := by omega
      clear r0 r1 r2 r3 r4 r5 r6
      go_wp2_with fail
      go_ret
      exact ⟨p, g, rfl, flPre_end R.out (own_setOther O.out A1.out.1) (Q.out.setCell (fun e => A1.out.2.1 (by simpa [Value.ownBlock] using e))) A1.out (by omega), K.out.setCell (p := ⟨p, 3 + P, none⟩) A1.out.2.2.2.1 _⟩
end Go.Proofs.Ytjmfffgddmnkmac
