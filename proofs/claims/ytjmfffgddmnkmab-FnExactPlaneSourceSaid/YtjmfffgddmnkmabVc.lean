/- What the laws do to lists of waves: compare two, mark one and ask for the marks. Condition: sixteen waves at most are marked. -/
import Derived.Test.YtjmfffgddmnkmabVa
import Derived.Test.YtjmfffgddmnkmabEqV
import Derived.Lib.Hide
import Derived.Deep.Draws
import Derived.Deep.RegionHeld3
import Derived.Deep.RegionLaw
namespace Go.Proofs.Ytjmfffgddmnkmab
open Go Go.RowKit

/-- waves of finite cells -/
def Fw (Ps : List (Array Value)) : Prop := ∀ P ∈ Ps, ∃ (s : Int) (zs : Array Value), P = pic s zs ∧ Cells zs
theorem Fw.ws {Ps : List (Array Value)} (h : Fw Ps) : Ws Ps := fun P hP => by
  obtain ⟨s, zs, rfl, hz⟩ := h P hP
  exact pic_size s zs hz.1

set_option maxRecDepth 100000 in
set_option maxHeartbeats 800000 in
theorem eqWs_yes (a1 a2 : Option Addr) (c1 c2 : Nat) (Ps : List (Array Value)) (w : World) (hP : Fw Ps) (h1 : CameV a1 Ps.length (flatW Ps) w) (h2 : CameV a2 Ps.length (flatW Ps) w) (hn : Ps.length ≤ 1048576) :
    Calls Try.prog 57 #[.slice a1 Ps.length c1, .slice a2 Ps.length c2] w fun e w' => e = .returned (.bool true) ∧ Below w.heap.size w w' := by
  have H1 := Lib.hid (fun i P hi => CameV.range h1 hP.ws rfl i P hi)
  have H2 := Lib.hid (fun i P hi => CameV.range h2 hP.ws rfl i P hi)
  have HF := Lib.hid hP
  clear h1 h2 hP
  obtain ⟨n, hnn⟩ : ∃ n, n = Ps.length := ⟨_, rfl⟩
  rw [← hnn] at hn ⊢
  have HN := Lib.hid hnn
  clear hnn
  have hnn : ((n : Int) != n) = false := by simp
  go_enter Try.func57, Try.ntmps57
  go_wp2
  go_loopw [5] (fun i wr => ∃ k : Nat, k ≤ n ∧ i = .int .i64 k ∧ Hid (Below w.heap.size w wr)) (fun i _ => n - (intOf i).toNat)
  case atStart => exact ⟨0, by omega, rfl, Lib.hid (Below.refl _ _)⟩
  case round =>
    obtain ⟨k, hk, rfl, HW⟩ := hrel
    by_cases hlt : k < n
    · have hdk : decide ((k : Int) < (n : Int)) = true := by simp; omega
      obtain ⟨P, hPk⟩ : ∃ P, Ps[k]? = some P := ⟨_, List.getElem?_eq_getElem (by rw [← HN.out]; exact hlt)⟩
      obtain ⟨b1, o1, rfl, hb1, r1⟩ := H1.out k P hPk
      obtain ⟨b2, o2, rfl, hb2, r2⟩ := H2.out k P hPk
      obtain ⟨s, zs, hpz, hz⟩ := HF.out P (List.mem_of_getElem? hPk)
      have HE : Hid (∀ w, Calls Try.prog 35 #[.agg P, .agg P] w fun e w' => e = .returned (.bool true) ∧ Below w.heap.size w w') := Lib.hid (fun w => by rw [hpz]; exact eqWave_refl s zs hz w)
      have hps : P.toList.length = 65 := by rw [Array.length_toList, hpz]; exact pic_size s zs hz.1
      have HI : Hid ((Try.prog.info? 30).map (·.size) = some P.toList.length) := Lib.hid (by rw [hps]; exact (zero_of_info info37').2)
      have R1 : Hid (∀ w', Below w.heap.size w w' → w'.rangeAt b1 (o1 + k * 65) P.toList) := Lib.hid (fun w' h j v hv => (h.cell (p := ⟨b1, o1 + k * 65 + j, none⟩) hb1).trans (r1 j v hv))
      have R2 : Hid (∀ w', Below w.heap.size w w' → w'.rangeAt b2 (o2 + k * 65) P.toList) := Lib.hid (fun w' h j v hv => (h.cell (p := ⟨b2, o2 + k * 65 + j, none⟩) hb2).trans (r2 j v hv))
      clear hb1 hb2 r1 r2 hpz hz hps hPk
      go_wp2
      refine wp_region_noPanic ?_
      refine wp_region_held_drew (S := Below w.heap.size w) (by kernel_rfl) HW.out.drew (fun hHeld => ?_)
      refine wpAnyH_take (i := 0) (v := .slice (some ⟨b1, o1, none⟩) n c1) rfl (by kernel_rfl) (by kernel_rfl) (by kernel_rfl) (fun _ _ _ h => h) (Or.inl ⟨by rfl, fun w' hSw => by go_simp⟩) hHeld ?_
      simp only [Act.put]
      refine wpAnyH_take (i := 1) (v := .int .i64 k) rfl (by kernel_rfl) (by kernel_rfl) (by kernel_rfl) (fun _ _ _ h => h) (Or.inl ⟨by rfl, fun w' hSw => by go_simp⟩) hHeld ?_
      simp only [Act.put]
      refine wpAnyH_take (i := 2) (v := .pointer (some ⟨b1, o1 + k * 65, none⟩)) rfl (by kernel_rfl) (by kernel_rfl) (by kernel_rfl) (fun _ _ _ h => h) (Or.inl ⟨by rfl, fun w' hSw => by go_simp⟩) hHeld ?_
      simp only [Act.put]
      refine wpAnyH_take (i := 3) (v := .agg P) rfl (by kernel_rfl) (by kernel_rfl) (by kernel_rfl) (fun _ _ _ h => h) (yieldsIf_load_mid rfl 30 (.tmp 19) rfl b1 (o1 + k * 65) rfl P.toList _ R1.out Try.underlying30 rfl HI.out) hHeld ?_
      simp only [Act.put]
      refine wpAnyH_take (i := 4) (v := .slice (some ⟨b2, o2, none⟩) n c2) rfl (by kernel_rfl) (by kernel_rfl) (by kernel_rfl) (fun _ _ _ h => h) (Or.inl ⟨by rfl, fun w' hSw => by go_simp⟩) hHeld ?_
      simp only [Act.put]
      refine wpAnyH_take (i := 5) (v := .int .i64 k) rfl (by kernel_rfl) (by kernel_rfl) (by kernel_rfl) (fun _ _ _ h => h) (Or.inl ⟨by rfl, fun w' hSw => by go_simp⟩) hHeld ?_
      simp only [Act.put]
      refine wpAnyH_take (i := 6) (v := .pointer (some ⟨b2, o2 + k * 65, none⟩)) rfl (by kernel_rfl) (by kernel_rfl) (by kernel_rfl) (fun _ _ _ h => h) (Or.inl ⟨by rfl, fun w' hSw => by go_simp⟩) hHeld ?_
      simp only [Act.put]
      refine wpAnyH_take (i := 7) (v := .agg P) rfl (by kernel_rfl) (by kernel_rfl) (by kernel_rfl) (fun _ _ _ h => h) (yieldsIf_load_mid rfl 30 (.tmp 23) rfl b2 (o2 + k * 65) rfl P.toList _ R2.out Try.underlying30 rfl HI.out) hHeld ?_
      simp only [Act.put]
      refine wpAnyH_ready (rs := [8]) (by kernel_rfl) (by simp) ?_
      refine AllReadyH.cons (o := _) rfl (fun K hK => ?_) AllReadyH.nil
      rw [if_pos (by rfl)]
      go_simp
      refine (HE.out _).mono ?_
      rintro e w3 ⟨rfl, k3⟩
      have hHeld3 := hHeld.trans (k3.mono hHeld.size)
      refine hK.out _ _ hHeld3 (fun _ => ?_)
      clear hK K
      refine wpAnyH_take (i := 9) (v := .bool false) rfl (by kernel_rfl) (by kernel_rfl) (by kernel_rfl) (fun _ _ _ h => h) (Or.inl ⟨by rfl, fun w' hSw => by go_simp⟩) hHeld3 ?_
      simp only [Act.put]
      refine wpAnyH_done (by kernel_rfl) ?_ _
      refine NoPanic.normal ?_
      have HW3 : Hid (Below w.heap.size w w3) := Lib.hid hHeld3
      clear k3 hHeld hHeld3 R1 R2 HE
      go_wp2
      exact ⟨⟨k + 1, by omega, by go_num, HW3⟩, by simp [intOf]; omega⟩
    · obtain rfl : k = n := by omega
      go_wp2
      go_ret
      exact ⟨rfl, HW.out⟩

/-- a whole number as a complex64 with the imaginary part 1 -/
def cm (q : Nat) : Nat × Nat := (cConvBits .f64 (floatOfInt .f64 (1 + (q : Int))) 4607182418800017408 .f32).getD (0, 0)
theorem cm_fin : ∀ q : Fin 1040, cConvBits .f64 (floatOfInt .f64 (1 + (q.val : Int))) 4607182418800017408 .f32 = some (cm q.val) ∧ FloatKind.f32.format.order (cm q.val).1 (cm q.val).1 = some .eq ∧ FloatKind.f32.format.order (cm q.val).2 (cm q.val).2 = some .eq := by decide +kernel
theorem cm_any (q : Nat) (h : q < 1040) : cConvBits .f64 (floatOfInt .f64 (1 + (q : Int))) 4607182418800017408 .f32 = some ((cm q).1, (cm q).2) ∧ FloatKind.f32.format.order (cm q).1 (cm q).1 = some .eq ∧ FloatKind.f32.format.order (cm q).2 (cm q).2 = some .eq := cm_fin ⟨q, h⟩
/-- the mark in the cell q -/
def mkV (q : Nat) : Value := if q % 65 = 0 then .int .i64 (1 + (q : Int)) else .complex .f32 (cm q).1 (cm q).2
theorem mkV_side (i : Nat) : mkV (i * 65) = .int .i64 (1 + ((i * 65 : Nat) : Int)) := by unfold mkV; rw [if_pos (by omega)]
theorem mkV_cell (i j : Nat) (h : j < 64) : mkV (i * 65 + 1 + j) = .complex .f32 (cm (i * 65 + 1 + j)).1 (cm (i * 65 + 1 + j)).2 := by unfold mkV; rw [if_neg (by omega)]
def marksV (n : Nat) : List Value := (List.range (n * 65)).map mkV
theorem marksV_len (n : Nat) : (marksV n).length = n * 65 := by simp [marksV]
theorem marksV_get (n q : Nat) (h : q < n * 65) : (marksV n)[q]? = some (mkV q) := by
  unfold marksV
  rw [List.getElem?_map, List.getElem?_range h]
  rfl
/-- the first q cells marked -/
def mpV (xs : List Value) (q : Nat) : List Value := (List.range q).map mkV ++ xs.drop q
theorem mpV_len (xs : List Value) (q : Nat) (h : q ≤ xs.length) : (mpV xs q).length = xs.length := by
  unfold mpV; rw [List.length_append, List.length_map, List.length_range, List.length_drop]; omega
theorem mpV_set (xs : List Value) (q : Nat) (h : q < xs.length) : (mpV xs q).set q (mkV q) = mpV xs (q + 1) := by
  unfold mpV
  rw [List.set_append_right _ _ (by simp), List.length_map, List.length_range, Nat.sub_self, List.drop_eq_getElem_cons h, List.set_cons_zero]
  simp [List.range_succ]
theorem mpV_all (xs : List Value) (n : Nat) (h : xs.length = n * 65) : mpV xs (n * 65) = marksV n := by
  unfold mpV marksV
  rw [List.drop_of_length_le (by omega), List.append_nil]

theorem OwnV.some {B n g cap : Nat} {xs : List Value} {w : World} (h : OwnV B (.slice (some ⟨g, 0, none⟩) n cap) n xs w) (q : Nat) (hq : q < n * 65) : ∃ y, w.cell? ⟨g, q, none⟩ = some y := by
  have hl := h.len
  exact ⟨_, (h.cell q hq).trans (List.getElem?_eq_getElem (by omega))⟩

set_option maxRecDepth 100000 in
theorem conv_mark (q : Nat) (h : q < 1040) (w : World) : (convert 119 27 (.complex .f64 (floatOfInt .f64 (1 + (q : Int))) 4607182418800017408)).run Try.prog w = .ok (.complex .f32 (cm q).1 (cm q).2) w :=
  run_convert_complex w 119 27 .f64 .f32 _ _ _ _ (by rw [Try.underlying119]; rfl) Try.underlying27 (cm_any q h).1

theorem grown_set {w u : World} {g : Nat} (h : w.grownBy u (some g)) (q : Nat) (x : Value) : w.grownBy (u.setCell ⟨g, q, none⟩ x) (some g) := by
  refine ⟨h.os, h.tape, h.output, by simpa [World.setCell] using h.size, fun j hj hne => ?_⟩
  rw [Below.heap_setCell _ _ _ _ (fun e => hne (by rw [e]))]
  exact h.block j hj hne

set_option maxRecDepth 100000 in
set_option maxHeartbeats 1600000 in
theorem markWs_any (B : Nat) (v : Value) (n : Nat) (xs : List Value) (w : World) (h : OwnV B v n xs w) (hn : n ≤ 16) :
    Calls Try.prog 60 #[v, .int .i64 1] w fun e w' => e = .returned (.int .i64 (1 + ((n * 65 : Nat) : Int))) ∧ OwnV B v n (marksV n) w' ∧ w.grownBy w' v.ownBlock := by
  have hlen := h.len
  rcases h.kind with ⟨rfl, rfl, rfl⟩ | ⟨g, cap, rfl, hb, hg, _⟩
  · go_enter Try.func60, Try.ntmps60
    go_wp2
    refine wp_loop_rounds 1 ?_
    rw [rounds_succ]
    go_wp2
    go_ret
    exact ⟨rfl, h, ⟨rfl, rfl, rfl, Nat.le_refl _, fun _ _ _ => rfl⟩⟩
  · have HL := Lib.hid hlen
    have G1 : Hid (w.grownBy w (some g)) := Lib.hid ⟨rfl, rfl, rfl, Nat.le_refl _, fun _ _ _ => rfl⟩
    have O1 : Hid (OwnV B (.slice (some ⟨g, 0, none⟩) n cap) n (mpV xs (0 * 65)) w) := Lib.hid (by simpa [mpV] using h)
    clear h hlen
    go_enter Try.func60, Try.ntmps60
    go_wp2
    go_loopw [1, 5] (fun p i wr => ∃ k : Nat, k ≤ n ∧ i = .int .i64 k ∧ p = .int .i64 (1 + ((k * 65 : Nat) : Int)) ∧ Hid (OwnV B (.slice (some ⟨g, 0, none⟩) n cap) n (mpV xs (k * 65)) wr) ∧ Hid (w.grownBy wr (some g))) (fun _ i _ => n - (intOf i).toNat)
    case atStart => exact ⟨0, by omega, rfl, rfl, O1, G1⟩
    case round =>
      obtain ⟨k, hk, rfl, rfl, O2, G2⟩ := hrel
      by_cases hlt : k < n
      · have hdk : decide ((k : Int) < (n : Int)) = true := by simp; omega
        have f0 := O2.out.free (k * 65)
        obtain ⟨y0, d0⟩ := O2.out.some (k * 65) (by omega)
        have O3 : Hid (OwnV B (.slice (some ⟨g, 0, none⟩) n cap) n (mpV xs (k * 65 + 1)) (wr.setCell ⟨g, k * 65, none⟩ (.int .i64 (1 + ((k * 65 : Nat) : Int))))) := Lib.hid (by
          have h1 := O2.out.stored (k * 65) (mkV (k * 65))
          rw [mpV_set xs (k * 65) (by rw [HL.out]; omega), mkV_side] at h1
          exact h1)
        have G3 : Hid (w.grownBy (wr.setCell ⟨g, k * 65, none⟩ (.int .i64 (1 + ((k * 65 : Nat) : Int)))) (some g)) := Lib.hid (grown_set G2.out _ _)
        have hw1 : IntKind.i64.wrap (1 + ((k * 65 : Nat) : Int) + 1) = 1 + ((k * 65 + 1 + 0 : Nat) : Int) := by rw [show 1 + ((k * 65 : Nat) : Int) + 1 = 1 + ((k * 65 + 1 + 0 : Nat) : Int) by omega]; exact IntWalk.i64_in _ (by omega)
        generalize 1 + ((k * 65 : Nat) : Int) = m at *
        go_wp2_with fail
        go_loopw [1, 6] (fun p jv wv => ∃ j : Nat, j ≤ 64 ∧ jv = .int .i64 j ∧ p = .int .i64 (1 + ((k * 65 + 1 + j : Nat) : Int)) ∧ Hid (OwnV B (.slice (some ⟨g, 0, none⟩) n cap) n (mpV xs (k * 65 + 1 + j)) wv) ∧ Hid (w.grownBy wv (some g))) (fun _ jv _ => 64 - (intOf jv).toNat)
        case atStart => exact ⟨0, by omega, rfl, rfl, O3, G3⟩
        case round =>
          clear O3 G3 O2 G2 f0 d0 hw1
          obtain ⟨j, hj, rfl, rfl, O4, G4⟩ := hrel
          by_cases hlt2 : j < 64
          · have hdj : decide ((j : Int) < 64) = true := by simp; omega
            have f1 := O4.out.free (k * 65 + 1 + j)
            obtain ⟨y1, d1⟩ := O4.out.some (k * 65 + 1 + j) (by omega)
            have hcv := conv_mark (k * 65 + 1 + j) (by omega)
            have hO5 := O4.out.stored (k * 65 + 1 + j) (mkV (k * 65 + 1 + j))
            rw [mpV_set xs (k * 65 + 1 + j) (by rw [HL.out]; omega), mkV_cell k j hlt2] at hO5
            have O5 := Lib.hid hO5
            clear hO5
            have G5 := Lib.hid (grown_set G4.out (k * 65 + 1 + j) (.complex .f32 (cm (k * 65 + 1 + j)).1 (cm (k * 65 + 1 + j)).2))
            have hw2 : IntKind.i64.wrap (1 + ((k * 65 + 1 + j : Nat) : Int) + 1) = 1 + ((k * 65 + 1 + (j + 1) : Nat) : Int) := by rw [show 1 + ((k * 65 + 1 + j : Nat) : Int) + 1 = 1 + ((k * 65 + 1 + (j + 1) : Nat) : Int) by omega]; exact IntWalk.i64_in _ (by omega)
            generalize (cm (k * 65 + 1 + j)).1 = re at *
            generalize (cm (k * 65 + 1 + j)).2 = im at *
            generalize 1 + ((k * 65 + 1 + j : Nat) : Int) = m2 at *
            go_wp2_with fail
            exact ⟨⟨j + 1, by omega, by go_num, by rfl, O5, G5⟩, by simp [intOf]; omega⟩
          · obtain rfl : j = 64 := by omega
            have O6 : Hid (OwnV B (.slice (some ⟨g, 0, none⟩) n cap) n (mpV xs ((k + 1) * 65)) wr) := Lib.hid (by rw [show (k + 1) * 65 = k * 65 + 1 + 64 by omega]; exact O4.out)
            have hm3 : 1 + ((k * 65 + 1 + 64 : Nat) : Int) = 1 + (((k + 1) * 65 : Nat) : Int) := by omega
            rw [hm3]
            clear hm3
            go_wp2_with fail
            exact ⟨⟨k + 1, by omega, by go_num, by rfl, O6, G4⟩, by simp [intOf]; omega⟩
      · obtain rfl : k = n := by omega
        have O3 := O2.out
        rw [mpV_all xs k HL.out] at O3
        go_wp2
        go_ret
        exact ⟨rfl, O3, G2.out⟩

end Go.Proofs.Ytjmfffgddmnkmab
