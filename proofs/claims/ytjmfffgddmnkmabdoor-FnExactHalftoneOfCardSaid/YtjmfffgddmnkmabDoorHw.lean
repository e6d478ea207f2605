/- A row of the program's halftones. Condition: levels that are numbers; the program's error holds the library's. -/
import Derived.Test.YtjmfffgddmnkmabDoorHr
namespace Go.Proofs.YtjmfffgddmnkmabDoor
open Go Go.RowKit Go.Conc

set_option maxRecDepth 100000 in
set_option maxHeartbeats 4000000 in
theorem row_any (n : Nat) (zs : Array Value) (t d : Nat) (hz : Floats zs) (hh : HtOk n t d (lev zs)) (hn : 1 ≤ n ∧ n ≤ 8) (b : Nat) (a : Addr) (y q c0 : Nat) (v : World) (hy : y < n) (hok : okT n t d (lev zs) true (n * y) = true) (hE : Err a v)
    (hb : v.heap[b]? = some (.cells (pic n zs) 36 (0, 0))) (hq : v.heap[q]? = some (.cells (pic n (gf (dot n t d (lev zs) true) (n * y))) 25 (0, 0))) (hc : v.heap[c0]? = some (Above n (hT n t d (lev zs) true (n * y)) y)) (hqc : q ≠ c0) :
    Calls Tryd.prog 42 #[.slice (some ⟨q, 1 + n * y, none⟩) n n, .slice (some ⟨b, 1 + n * y, none⟩) n n, .float .f32 t, .chan (some c0)] v fun e w' => RowEnd n t d (lev zs) y q c0 a v e w' := by
  have HLV : Hid (∀ k, k < 64 → (pic n zs)[1 + k]? = some (.float .f32 (lev zs k))) := Lib.hid fun k hk => by rw [Nat.add_comm, pic_succ]; exact (bitsAt_lt zs hz k hk).2
  obtain ⟨p, hp⟩ : ∃ p, n * y = p := ⟨_, rfl⟩
  have hp1 : n * (y + 1) = p + n := by rw [Nat.mul_succ, hp]
  have h64 : p + n ≤ 64 := by
    rw [← hp1]
    exact Nat.le_trans (Nat.mul_le_mul hn.2 (show y + 1 ≤ 8 by omega)) (by decide)
  have hbq : b ≠ q := by
    intro e; subst e
    rw [hb] at hq; injection hq with h1; injection h1 with _ h2; exact absurd h2 (by decide)
  have hbc : b ≠ c0 := by
    intro e; subst e
    rw [hb, above_start] at hc
    unfold AboveAt at hc
    split at hc <;> (injection hc with h1; cases h1)
  have hbl := (Array.getElem?_eq_some_iff.1 hb).1
  have hql := (Array.getElem?_eq_some_iff.1 hq).1
  have hcl := (Array.getElem?_eq_some_iff.1 hc).1
  have hq0 : 0 < q := by
    rcases Nat.eq_zero_or_pos q with e | e
    · exfalso
      subst e
      have h1 := hE
      unfold Err at h1
      rw [cell_of_row v _ _ _ _ _ hq, pic_zero] at h1
      cases h1
    · exact e
  have hc00 : 0 < c0 := by
    rcases Nat.eq_zero_or_pos c0 with e | e
    · exfalso
      subst e
      have h1 := hE
      rw [above_start] at hc
      unfold Err World.cell? at h1
      unfold AboveAt at hc
      split at hc <;> (simp [hc] at h1)
    · exact e
  have HRC := Lib.hid (fun x hx ho => row_cell hh y x p hp hn hy hx ho)
  have HFIN : Hid (∀ w', (∀ B, B ≤ q → B ≤ c0 → B ≤ v.heap.size → Below B v w') → okT n t d (lev zs) true (p + n) = false → RowEnd n t d (lev zs) y q c0 a v (.panicked [{ v := errV a, recovered := false }]) w') := Lib.hid fun w' hw ho => ⟨.inr ⟨by rw [hp1]; exact ho, rfl⟩, hw⟩
  have HEND : Hid (∀ w', (∀ B, B ≤ q → B ≤ c0 → B ≤ v.heap.size → Below B v w') → okT n t d (lev zs) true (p + n) = true → w'.heap[v.heap.size]? = some (.chan n (dnBuf p n (hT n t d (lev zs) true (p + n))) true n 0 false) →
      w'.heap[q]? = some (.cells (pic n (gf (dot n t d (lev zs) true) (p + n))) 25 (0, 0)) → RowEnd n t d (lev zs) y q c0 a v (.returned (.chan (some v.heap.size))) w') := Lib.hid fun w' hw ho h1 h2 =>
    ⟨.inl ⟨by rw [hp1]; exact ho, _, rfl, Nat.le_refl _, by rw [h1, hp1, above_next n _ y p hp], by rw [h2, hp1]⟩, hw⟩
  have A : Hid (Apart b q c0 v.heap.size) := Lib.hid ⟨hbq, hbc, by omega, hqc, by omega, by omega⟩
  rw [hp] at hok hq hc
  rw [above_start] at hc
  rw [hp]
  have hmc := fun w => mkChan n (by omega) w
  have R0 : Hid (RowW n t d p y b q c0 v.heap.size (lev zs) (pic n zs) (hT n t d (lev zs) true p) (hT n t d (lev zs) true (p + n)) v 0 0 0 (v.alloc (.chan n #[] false 0 0 false))) := Lib.hid ⟨by rw [heap_alloc_old _ _ hql]; exact hq, by rw [heap_alloc_old _ _ hbl]; exact hb, by rw [heap_alloc_old _ _ hcl]; exact hc, by rw [heap_alloc_new]; rfl, fun B h1 h2 h3 => (Below.refl _ _).alloc h3 _⟩
  have HOK := Lib.hid hok
  have HMD : Hid (floatBits .mul .f32 1073741824 t = some d) := Lib.hid hh.md
  have HLT : Hid (∀ w', (∀ B, B ≤ q → B ≤ c0 → B ≤ v.heap.size → Below B v w') → Err a w') := Lib.hid fun w' h => hE.below (n := 1) (by omega) (h 1 (by omega) (by omega) (by omega))
  have hn64 : (n : Int) ≤ 64 := by omega
  have hn0 : (0 : Int) ≤ (n : Int) := by omega
  clear hz hh hE hb hq hc hok hbq hbc hqc hbl hql hcl hp1
  generalize pic n zs = cs at *
  generalize lev zs = L at *
  generalize hT n t d L true p = G at *
  generalize hT n t d L true (p + n) = H at *
  generalize hc2 : v.heap.size = c2 at *
  refine calls_of_wp_close (d := ⟨.builtin .close #[96] 0 #[false], #[.chan (some c2)]⟩) rfl Tryd.func42 rfl ?_
  simp only [Tryd.ntmps42, List.size_toArray, List.length_cons, List.length_nil, Nat.reduceAdd, Nat.reduceSub, Array.replicate_succ, Array.replicate_zero, List.push_toArray, List.append_toArray, List.nil_append, List.cons_append]
  go_wp2_with fail
  go_loopw [10, 23] (fun h i wr => ∃ x : Nat, x ≤ n ∧ i = .int .i64 x ∧ h = .float .f32 (leftAt p x H) ∧ Hid (okT n t d L true (p + x) = true) ∧ Hid (RowW n t d p y b q c0 c2 L cs G H v x x x wr)) (fun _ i _ => n - (intOf i).toNat)
  case atStart => exact ⟨0, by omega, rfl, rfl, HOK, R0⟩
  case round =>
    obtain ⟨x, hx, rfl, rfl, HO, R⟩ := hrel
    by_cases hlt : x < n
    · have hdx : decide ((x : Int) < (n : Int)) = true := by simp; omega
      obtain ⟨a0, s, r, f1, f2, f3, f4, f5, f6⟩ := HRC.out x hlt HO.out
      have hpk : wr.cell? ⟨b, 1 + p + x, none⟩ = some (.float .f32 (L (p + x))) := by rw [cell_of_row _ _ _ _ _ _ R.out.ba, Nat.add_assoc]; exact HLV.out (p + x) (by omega)
      have hx0 : (0 : Int) ≤ (x : Int) := by omega
      have hxn : (x : Int) < (n : Int) := by omega
      have g1 := fun w => run_float_arith (P := Tryd.prog) w .add 30 .f32 _ _ a0 f1
      generalize L (p + x) = lv at *
      go_upto_region 7 with fail
      refine region_to ?_
      show OpsTo _ _ _ [0, 1, 2, 3, 4, 5] _ _
      refine opsTo_value rfl rfl rfl ?_
      walk_nrm
      refine opsTo_value rfl rfl rfl ?_
      walk_nrm
      refine opsTo_recv_above (x := x) hlt R.out.up rfl rfl (by simp [go_sem, rcase]) (fun w1 q1 q2 q3 => ?_)
      have R1 := Lib.hid (R.out.recv A.out q1 q2 q3)
      clear q1 q2 q3 R
      walk_nrm
      refine opsTo_drop _ 3 ?_
      simp only [List.drop]
      go_wp2_with fail
      cases hfa : fin a0
      · refine (finNum_no a0 hfa a _ (HLT.out _ R1.out.bl)).mono ?_
        rintro e w' ⟨rfl, n1, rfl⟩
        have CL := (R1.out.drewN n1).close A.out
        exact ⟨rfl, _, _, CL.1, HFIN.out _ CL.2.2.2 (f2 hfa)⟩
      refine (finNum_yes a0 hfa _).mono ?_
      rintro e w' ⟨rfl, n1, rfl⟩
      have R2 := Lib.hid (R1.out.drewN n1)
      clear R1
      generalize w1.drewN n1 = w2 at *
      have g2 := fun w => run_float_arith (P := Tryd.prog) w .add 30 .f32 _ _ s (f3 hfa)
      clear f1 f3 g1 hpk
      generalize leftAt p x H = lf at *
      go_wp2_with fail
      cases hfs : fin s
      · refine (finNum_no s hfs a _ (HLT.out _ R2.out.bl)).mono ?_
        rintro e w' ⟨rfl, n1, rfl⟩
        have CL := (R2.out.drewN n1).close A.out
        exact ⟨rfl, _, _, CL.1, HFIN.out _ CL.2.2.2 (f4 hfs)⟩
      refine (finNum_yes s hfs _).mono ?_
      rintro e w' ⟨rfl, n1, rfl⟩
      have R3 := Lib.hid (R2.out.drewN n1)
      clear R2
      generalize w2.drewN n1 = w3 at *
      obtain ⟨h1, h2, h3, h4⟩ := f6 hfs
      cases hg : geT s t
      · have hge : (FloatKind.f32.format.order s t == some .gt || FloatKind.f32.format.order s t == some .eq) = false := hg
        obtain rfl := h3 hg
        obtain ⟨k1, k2⟩ := h4 (fun e => by rw [hg] at e; cases e)
        have g3 := fun w => run_float_arith (P := Tryd.prog) w .quo 30 .f32 _ _ _ k1
        have hold : w3.cell? ⟨q, 1 + p + x, none⟩ = some (.complex .f32 0 0) := by rw [cell_of_row _ _ _ _ _ _ R3.out.qa, Nat.add_assoc]; exact gf_old n _ (p + x) (by omega)
        have hfree : w3.frozen? ⟨q, 1 + p + x, none⟩ = false := frozen_of_row _ _ _ _ _ R3.out.qa
        have R4 := R3.out.store A.out (show p + x < 64 by omega)
        rw [f5, hg, ← Nat.add_assoc] at R4
        have R4 := Lib.hid R4
        have K2 := Lib.hid k2
        clear h1 h2 h3 h4 f2 f4 f5 f6 k1 k2 g2
        go_upto_region 15 with (go_at_call 67; refine (cell_any _ _).mono ?_; rintro e w' ⟨rfl, rfl⟩)
        have g4 : (0 : Int) ≤ (x : Int) := hx0
        refine region_to ?_
        show OpsTo _ _ _ [0, 1, 2] _ _
        refine opsTo_value rfl rfl rfl ?_
        walk_nrm
        refine opsTo_value rfl rfl rfl ?_
        walk_nrm
        refine opsTo_send_below (x := x) (z' := .tuple #[]) hlt R4.out.dn rfl rfl (by simp [go_sem, scase]) (fun w1 q1 q2 q3 => ?_)
        have R5 := Lib.hid (R4.out.send A.out q1 q2 q3)
        clear q1 q2 q3 R4 R3
        walk_nrm
        refine opsTo_drop _ 3 ?_
        simp only [List.drop]
        go_wp2_with fail
        exact ⟨⟨x + 1, by omega, by go_num, by unfold leftAt; rw [if_neg (by omega), show p + (x + 1) - 1 = p + x by omega], K2, R5⟩, by simp [intOf]; omega⟩
      · have hge : (FloatKind.f32.format.order s t == some .gt || FloatKind.f32.format.order s t == some .eq) = true := hg
        have gm := fun w => run_float_arith (P := Tryd.prog) w .mul 30 .f32 _ _ d HMD.out
        go_wp2_with fail
        cases hfd : fin d
        · refine (finNum_no d hfd a _ (HLT.out _ R3.out.bl)).mono ?_
          rintro e w' ⟨rfl, n1, rfl⟩
          have CL := (R3.out.drewN n1).close A.out
          exact ⟨rfl, _, _, CL.1, HFIN.out _ CL.2.2.2 (h2 hg hfd)⟩
        refine (finNum_yes d hfd _).mono ?_
        rintro e w' ⟨rfl, n1, rfl⟩
        have R3' := Lib.hid (R3.out.drewN n1)
        clear R3
        generalize w3.drewN n1 = w3' at *
        obtain ⟨k1, k2⟩ := h4 (fun _ => hfd)
        have gs := fun w => run_float_arith (P := Tryd.prog) w .sub 30 .f32 _ _ r (h1 hg hfd)
        have g3 := fun w => run_float_arith (P := Tryd.prog) w .quo 30 .f32 _ _ _ k1
        have hold : w3'.cell? ⟨q, 1 + p + x, none⟩ = some (.complex .f32 0 0) := by rw [cell_of_row _ _ _ _ _ _ R3'.out.qa, Nat.add_assoc]; exact gf_old n _ (p + x) (by omega)
        have hfree : w3'.frozen? ⟨q, 1 + p + x, none⟩ = false := frozen_of_row _ _ _ _ _ R3'.out.qa
        have R4 := R3'.out.store A.out (show p + x < 64 by omega)
        rw [f5, hg, ← Nat.add_assoc] at R4
        have R4 := Lib.hid R4
        have K2 := Lib.hid k2
        clear h1 h2 h3 h4 f2 f4 f5 f6 k1 k2 g2 gm hge
        go_upto_region 15 with (go_at_call 67; refine (cell_any _ _).mono ?_; rintro e w' ⟨rfl, rfl⟩)
        refine region_to ?_
        show OpsTo _ _ _ [0, 1, 2] _ _
        refine opsTo_value rfl rfl rfl ?_
        walk_nrm
        refine opsTo_value rfl rfl rfl ?_
        walk_nrm
        refine opsTo_send_below (x := x) (z' := .tuple #[]) hlt R4.out.dn rfl rfl (by simp [go_sem, scase]) (fun w1 q1 q2 q3 => ?_)
        have R5 := Lib.hid (R4.out.send A.out q1 q2 q3)
        clear q1 q2 q3 R4 R3'
        walk_nrm
        refine opsTo_drop _ 3 ?_
        simp only [List.drop]
        go_wp2_with fail
        exact ⟨⟨x + 1, by omega, by go_num, by unfold leftAt; rw [if_neg (by omega), show p + (x + 1) - 1 = p + x by omega], K2, R5⟩, by simp [intOf]; omega⟩
    · obtain rfl : x = n := by omega
      go_wp2_with fail
      have CL := R.out.close A.out
      exact ⟨rfl, _, _, CL.1, _, by simp [results, Tryd.results42], HEND.out _ CL.2.2.2 HO.out CL.2.1 CL.2.2.1⟩
end Go.Proofs.YtjmfffgddmnkmabDoor
