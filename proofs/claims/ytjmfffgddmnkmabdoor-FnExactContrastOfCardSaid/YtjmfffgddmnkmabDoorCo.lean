/- The contrast of a picture, in the program and in the model. Condition: 64 floats; the program's error holds the library's. -/
import Derived.Test.YtjmfffgddmnkmabDoorMx
import Derived.Test.YtjmfffgddmnkmabDoorQh
import Derived.Test.YtjmfffgddmnkmabDoorDo
import Derived.Deep.RegionHeld3
import Derived.Deep.CutBlock
import Derived.Deep.DeepCutAuto
import Derived.Test.YtjmfffgddmnkmabDoorPicI
namespace Go.Proofs.YtjmfffgddmnkmabDoor
open Go Go.RowKit

set_option maxRecDepth 100000 in
set_option maxHeartbeats 2000000 in
theorem l05Ends_any (s : Nat) (hs : side s = true) (zs : Array Value) (hz : Floats zs) (w : World) : Calls Tryd.prog 26 #[.agg (pic s zs)] w fun e w' => e = .returned (.tuple #[.float .f32 (topS zs (s * s - 1)), .float .f32 (botS zs (s * s - 1))]) ∧ Below w.heap.size w w' := by
  have HP0 := Lib.hid (pic_zero s zs)
  have HP := Lib.hid (pic_succ s zs)
  have HL : Hid (∀ k, k < 64 → zs[k]? = some (.float .f32 (bitsAt zs k))) := Lib.hid fun k hk => (bitsAt_lt zs hz k hk).2
  have hs8 : 1 ≤ s ∧ s ≤ 8 := by rcases side_nat s hs with rfl | rfl | rfl | rfl <;> omega
  have hss := sq_le s hs
  have hpos : 0 < s * s := Nat.mul_pos (by omega) (by omega)
  have hw0 : IntKind.i64.wrap ((s : Int) * (s : Int)) = ((s * s : Nat) : Int) := by rw [← Int.natCast_mul]; exact IntWalk.i64_in _ (by omega)
  generalize pic s zs = cs at *
  clear hz hs
  generalize hN : s * s = N at *
  generalize hn : N - 1 = n at *
  have hnN : N = n + 1 := by omega
  have HN := Lib.hid hnN
  clear hN hn
  have hn64 : n < 64 := by omega
  clear hnN
  have B0 : Hid (Below w.heap.size w (w.alloc (.cells cs 36))) := Lib.hid ((Below.refl _ _).alloc (Nat.le_refl _) _)
  have G0 : Hid ((w.alloc (.cells cs 36)).heap[w.heap.size]? = some (.cells cs 36 (0, 0))) := Lib.hid (h1_0 _ _)
  go_enter Tryd.func26, Tryd.ntmps26
  go_wp2_with fail
  have hc1 : (w.alloc (.cells cs 36)).cell? ⟨w.heap.size, 1, none⟩ = some (.float .f32 (bitsAt zs 0)) := by rw [cell_of_row _ _ _ _ _ _ G0.out]; exact (HP.out 0).trans (HL.out 0 (by omega))
  generalize w.alloc (.cells cs 36) = v at *
  go_quiet (fail)
  clear hc1
  go_wp2
  go_loopw [4, 5, 6] (fun t b i wr => ∃ k d : Nat, k ≤ n ∧ i = .int .i64 ((k + 1 : Nat) : Int) ∧ t = .float .f32 (topS zs k) ∧ b = .float .f32 (botS zs k) ∧ wr = v.drewN d) (fun _ _ i _ => N - (intOf i).toNat)
  case atStart => exact ⟨0, nq, by omega, rfl, rfl, rfl, rfl⟩
  case round =>
    obtain ⟨k, d, hk, rfl, rfl, rfl, rfl⟩ := hrel
    have hp0 : (v.drewN d).cell? ⟨w.heap.size, 0, none⟩ = some (.int .i64 s) := by rw [World.cell?_drewN, cell_of_row _ _ _ _ _ _ G0.out]; exact HP0.out
    by_cases hlt : k < n
    · have hdk : decide ((k : Int) + 1 < (N : Int)) = true := by have := HN.out; simp; omega
      have hkN : k + 1 < N := by have := HN.out; omega
      have hk64 : ((k + 1 : Nat) : Int) < 64 := by omega
      have hk0 : (0 : Int) ≤ ((k + 1 : Nat) : Int) := by omega
      have hpk : (v.drewN d).cell? ⟨w.heap.size, 1 + (k + 1), none⟩ = some (.float .f32 (bitsAt zs (k + 1))) := by rw [World.cell?_drewN, cell_of_row _ _ _ _ _ _ G0.out, Nat.add_comm, HP.out]; exact HL.out _ (by omega)
      have HT : Hid (∀ c, (ordF (bitsAt zs (k + 1)) (topS zs k) == some .gt) = c → topS zs (k + 1) = if c = true then bitsAt zs (k + 1) else topS zs k) := Lib.hid fun c hc => by
        show up2 _ _ = _
        unfold up2; rw [hc]
      have HB : Hid (∀ c, (ordF (bitsAt zs (k + 1)) (botS zs k) == some .lt) = c → botS zs (k + 1) = if c = true then bitsAt zs (k + 1) else botS zs k) := Lib.hid fun c hc => by
        show lo2 _ _ = _
        unfold lo2; rw [hc]
      have HTX : Hid (topS zs (k + 1) = topS zs (k + 1)) := Lib.hid rfl
      generalize hT1 : topS zs (k + 1) = T1 at *
      generalize hB1 : botS zs (k + 1) = B1 at *
      have HT1 := Lib.hid hT1
      have HB1 := Lib.hid hB1
      clear hT1 hB1 HTX
      generalize bitsAt zs (k + 1) = l at *
      generalize topS zs k = T at *
      generalize botS zs k = B at *
      cases hg : (ordF l T == some .gt) <;> cases hb : (ordF l B == some .lt)
      all_goals
        have E1 := Lib.hid (HT.out _ hg)
        have E2 := Lib.hid (HB.out _ hb)
        unfold ordF at hg hb
        clear HT HB
        go_wp2
        exact ⟨⟨k + 1, d, by omega, by go_num, by rw [HT1.out, E1.out]; rfl, by rw [HB1.out, E2.out]; rfl, rfl⟩, by simp [intOf]; omega⟩
    · obtain rfl : k = n := by omega
      have hdk : decide ((k : Int) + 1 < (N : Int)) = false := by have := HN.out; simp; omega
      go_wp2
      go_ret2
      exact ⟨rfl, below_drewN B0.out _⟩

/-- the contrast, and the code -/
def ansCo (s : Int) (zs : Array Value) (n : Nat) : Nat × Int :=
  if shown s zs then
    if eqz (topS zs n) then (0, 5)
    else if fin ((Ieee.single.add (topS zs n) (botS zs n)).getD 0) then ((Ieee.single.div ((Ieee.single.sub (topS zs n) (botS zs n)).getD 0) ((Ieee.single.add (topS zs n) (botS zs n)).getD 0)).getD 0, 0)
    else (0, 3)
  else (0, 1)
theorem co_facts (s : Int) (zs : Array Value) (hz : Floats zs) (h : shown s zs = true) (n : Nat) (hn : n < 64) :
    ∃ q df, floatBits .add .f32 (topS zs n) (botS zs n) = some q ∧ floatBits .sub .f32 (topS zs n) (botS zs n) = some df ∧ eqz (mxP zs n) = eqz (topS zs n) ∧
    (eqz (topS zs n) = true → ansCo s zs n = (0, 5)) ∧
    (eqz (topS zs n) = false → mxP zs n = topS zs n ∧ floatBits .add .f32 (topS zs n) (mnP zs n) = some q ∧ floatBits .sub .f32 (topS zs n) (mnP zs n) = some df ∧
      (fin q = false → ansCo s zs n = (0, 3)) ∧ (fin q = true → ∃ r, floatBits .quo .f32 df q = some r ∧ NotNan r ∧ ansCo s zs n = (r, 0))) := by
  obtain ⟨⟨a1, a2, a3⟩, ⟨b1, b2, b3⟩⟩ := ends_both s zs hz h n hn
  obtain ⟨ft, lt⟩ := lev_fin s zs h _ a3
  obtain ⟨fb, lb⟩ := lev_fin s zs h _ b3
  obtain ⟨q, hq, _⟩ := add_num (topS zs n) (botS zs n) ft fb
  obtain ⟨df, hd, hdn⟩ := sub_num (topS zs n) (botS zs n) ft fb
  refine ⟨q, df, hq, hd, ?_, ?_, ?_⟩
  · rcases a1 with e | ⟨e1, e2⟩
    · rw [e]
    · rw [e1, e2]
  · intro h0
    unfold ansCo; rw [if_pos h, if_pos h0]
  · intro h0
    have hM : mxP zs n = topS zs n := by
      rcases a1 with e | ⟨_, e2⟩
      · exact e
      · rw [e2] at h0; cases h0
    obtain ⟨z1, z2⟩ := add_zeq (topS zs n) (mnP zs n) (botS zs n) ft h0 b1
    refine ⟨hM, by show Ieee.single.add _ _ = _; rw [z1]; exact hq, by show Ieee.single.sub _ _ = _; rw [z2]; exact hd, fun hf => ?_, fun hf => ?_⟩
    · unfold ansCo; rw [if_pos h, if_neg (by rw [h0]; decide), hq]; rw [if_neg (by show ¬ fin q = true; rw [hf]; decide)]
    · have ht : gtz (topS zs n) = true := gtz_of _ ft (by
        have e1 : (FloatKind.f32.format.order (topS zs n) 0 == some .lt) = false := lt
        have e2 : (FloatKind.f32.format.order (topS zs n) 0 == some .eq) = false := h0
        unfold leZ; rw [e1, e2]; rfl)
      have hg := sum_gtz (topS zs n) (botS zs n) q ft ht fb lb hq hf
      obtain ⟨r, hr, hrn⟩ := div_num df q hdn hf hg
      refine ⟨r, hr, hrn, ?_⟩
      unfold ansCo; rw [if_pos h, if_neg (by rw [h0]; decide), hq, hd]; rw [if_pos (by show fin q = true; exact hf)]
      show ((Ieee.single.div df q).getD 0, (0 : Int)) = _
      rw [hr]; rfl

theorem ansCo_num (s : Int) (zs : Array Value) (hz : Floats zs) : NotNan (ansCo s zs ((s * s).toNat - 1)).1 := by
  have h00 : NotNan 0 := notnan_fin 0 (by decide)
  cases h0 : shown s zs
  · unfold ansCo; rw [h0]; exact h00
  · obtain ⟨hs, t, rfl⟩ := shown_side s zs h0
    have hn64 : t * t - 1 < 64 := by have := sq_le t hs; omega
    have e2 : ((t : Int) * (t : Int)).toNat = t * t := by rw [← Int.natCast_mul]; rfl
    rw [e2]
    obtain ⟨q, df, f1, f2, f3, f4, f5⟩ := co_facts t zs hz h0 (t * t - 1) hn64
    cases ht : eqz (topS zs (t * t - 1))
    · obtain ⟨_, _, _, k1, k2⟩ := f5 ht
      cases hf : fin q
      · rw [k1 hf]; exact h00
      · obtain ⟨r, _, hn, ha⟩ := k2 hf
        rw [ha]; exact hn
    · rw [f4 ht]; exact h00

set_option maxRecDepth 100000 in
set_option maxHeartbeats 1000000 in
theorem specCo_any (s : Int) (zs : Array Value) (hz : Floats zs) (w : World) : Calls Tryd.prog 10 #[.agg (pic s zs)] w fun e w' => e = .returned (.tuple #[.float .f32 (ansCo s zs ((s * s).toNat - 1)).1, .int .i64 (ansCo s zs ((s * s).toNat - 1)).2]) ∧ Below w.heap.size w w' := by
  have HS := Lib.hid (size32 s zs hz)
  have hc := shown_any s zs hz
  cases h0 : shown s zs
  · have HA : Hid (ansCo s zs ((s * s).toNat - 1) = (0, 1)) := Lib.hid (by unfold ansCo; rw [h0]; rfl)
    rw [h0] at hc
    have HC := Lib.hid hc
    generalize ansCo s zs ((s * s).toNat - 1) = A at *
    generalize pic s zs = cs at *
    clear hc hz h0
    go_enter Tryd.func10, Tryd.ntmps10
    go_wp2_with (first | fail | (refine wpList_load_row rfl 36 (.tmp 1) rfl w.heap.size rfl 36 cs (0, 0) _ (h1_0 _ _) Tryd.underlying36 rfl HS.out ?_))
    refine (HC.out _).mono ?_
    rintro e w1 ⟨rfl, b1⟩
    have B1 : Hid (Below w.heap.size w w1) := Lib.hid (((Below.refl w.heap.size w).alloc (Nat.le_refl _) _).trans (b1.mono (by rw [size_al]; omega)))
    clear b1
    go_wp2
    go_ret2
    exact ⟨by rw [HA.out]; rfl, B1.out⟩
  · obtain ⟨hs, t, rfl⟩ := shown_side s zs h0
    have hn64 : t * t - 1 < 64 := by have := sq_le t hs; omega
    have e2 : ((t : Int) * (t : Int)).toNat = t * t := by rw [← Int.natCast_mul]; rfl
    rw [e2]
    obtain ⟨q, df, f1, f2, f3, f4, f5⟩ := co_facts t zs hz h0 (t * t - 1) hn64
    have HE := Lib.hid (l05Ends_any t hs zs hz)
    rw [h0] at hc
    have HC := Lib.hid hc
    have g1 := fun w => run_float_arith (P := Tryd.prog) w .add 30 .f32 _ _ q f1
    have g2 := fun w => run_float_arith (P := Tryd.prog) w .sub 30 .f32 _ _ df f2
    clear hc hz h0 f1 f2 f3
    generalize ansCo t zs (t * t - 1) = A at *
    generalize topS zs (t * t - 1) = T at *
    generalize botS zs (t * t - 1) = B at *
    generalize mxP zs (t * t - 1) = M at *
    generalize mnP zs (t * t - 1) = N at *
    generalize pic t zs = cs at *
    clear e2 hs
    go_enter Tryd.func10, Tryd.ntmps10
    go_wp2_with (first | fail | (refine wpList_load_row rfl 36 (.tmp 1) rfl w.heap.size rfl 36 cs (0, 0) _ (h1_0 _ _) Tryd.underlying36 rfl HS.out ?_))
    refine (HC.out _).mono ?_
    rintro e w1 ⟨rfl, b1⟩
    have P1 : Hid (w1.heap[w.heap.size]? = some (.cells cs 36 (0, 0))) := Lib.hid (by rw [b1.block _ (by rw [size_al]; omega)]; exact h1_0 _ _)
    have B1 : Hid (Below w.heap.size w w1) := Lib.hid (((Below.refl w.heap.size w).alloc (Nat.le_refl _) _).trans (b1.mono (by rw [size_al]; omega)))
    clear b1 HC
    go_wp2_with (first | fail | (refine wpList_load_row rfl 36 (.tmp 1) rfl w.heap.size rfl 36 cs (0, 0) _ P1.out Tryd.underlying36 rfl HS.out ?_))
    refine (HE.out _).mono ?_
    rintro e w2 ⟨rfl, b2⟩
    have B2 : Hid (Below w.heap.size w w2) := Lib.hid (B1.out.trans (b2.mono B1.out.size))
    clear b2 HE B1 P1
    cases ht : eqz T
    · obtain ⟨_, _, _, k1, k2⟩ := f5 ht
      have ht' : (FloatKind.f32.format.order T 0 == some .eq) = false := ht
      clear f4 f5 ht
      cases hf : fin q
      · have HA := Lib.hid (k1 hf)
        clear k1 k2
        go_wp2_with fail
        refine (fine_any _ _).mono ?_
        rw [hf]
        rintro e w' ⟨rfl, n', rfl⟩
        go_wp2
        go_ret2
        exact ⟨by rw [HA.out]; rfl, below_drewN B2.out _⟩
      · obtain ⟨r, hr, _, ha⟩ := k2 hf
        have HA := Lib.hid ha
        have g3 := fun w => run_float_arith (P := Tryd.prog) w .quo 30 .f32 _ _ r hr
        clear k1 k2 ha hr
        go_wp2_with fail
        refine (fine_any _ _).mono ?_
        rw [hf]
        rintro e w' ⟨rfl, n', rfl⟩
        go_wp2
        go_ret2
        exact ⟨by rw [HA.out]; rfl, below_drewN B2.out _⟩
    · have HA := Lib.hid (f4 ht)
      have ht' : (FloatKind.f32.format.order T 0 == some .eq) = true := ht
      clear f4 f5 ht
      go_wp2
      go_ret2
      exact ⟨by rw [HA.out]; rfl, B2.out⟩

set_option maxRecDepth 100000 in
set_option maxHeartbeats 1000000 in
theorem closCo_yes (M N q df r : Nat) (x y : Addr) (v : World) (hx : v.cell? x = some (.float .f32 M)) (hy : v.cell? y = some (.float .f32 N))
    (f1 : floatBits .add .f32 M N = some q) (f2 : floatBits .sub .f32 M N = some df) (hf : fin q = true) (f3 : floatBits .quo .f32 df q = some r) :
    Calls Tryd.prog 33 #[.pointer (some x), .pointer (some y)] v fun e w' => e = .returned (.float .f32 r) ∧ Below v.heap.size v w' := by
  have g1 := fun w => run_float_arith (P := Tryd.prog) w .add 30 .f32 _ _ q f1
  have g2 := fun w => run_float_arith (P := Tryd.prog) w .sub 30 .f32 _ _ df f2
  have g3 := fun w => run_float_arith (P := Tryd.prog) w .quo 30 .f32 _ _ r f3
  clear f1 f2 f3
  go_enter Tryd.func33, Tryd.ntmps33
  go_wp2_with fail
  go_quiet ((go_at_call 34; exact Calls.quiet_of (finNum_yes _ hf _)))
  go_wp2
  go_ret
  exact ⟨rfl, below_drewN (Below.refl _ _) _⟩

set_option maxRecDepth 100000 in
set_option maxHeartbeats 1000000 in
theorem closCo_no (M N q df : Nat) (x y a : Addr) (v : World) (hE : Err a v) (hx : v.cell? x = some (.float .f32 M)) (hy : v.cell? y = some (.float .f32 N))
    (f1 : floatBits .add .f32 M N = some q) (f2 : floatBits .sub .f32 M N = some df) (hf : fin q = false) :
    Calls Tryd.prog 33 #[.pointer (some x), .pointer (some y)] v fun e w' => e = .panicked [{ v := errV a, recovered := false }] ∧ Below v.heap.size v w' := by
  have g1 := fun w => run_float_arith (P := Tryd.prog) w .add 30 .f32 _ _ q f1
  have g2 := fun w => run_float_arith (P := Tryd.prog) w .sub 30 .f32 _ _ df f2
  have HE := Lib.hid hE
  clear f1 f2 hE
  go_enter Tryd.func33, Tryd.ntmps33
  go_wp2_with fail
  refine wp_region_held_drew (S := fun w' => w'.cell? x = some (.float .f32 M) ∧ w'.cell? y = some (.float .f32 N)) (by kernel_rfl) ⟨hx, hy⟩ (fun hHeld => ?_)
  refine wpAnyH_take (i := 0) (v := (.float .f32 M)) rfl (by kernel_rfl) (by kernel_rfl) (by kernel_rfl) (fun _ _ _ h => h) (Or.inl ⟨by rfl, fun w' hSw => by have c0 := hSw.1; have c1 := hSw.2; go_simp⟩) hHeld ?_
  simp only [Act.put]
  refine wpAnyH_take (i := 1) (v := (.float .f32 N)) rfl (by kernel_rfl) (by kernel_rfl) (by kernel_rfl) (fun _ _ _ h => h) (Or.inl ⟨by rfl, fun w' hSw => by have c0 := hSw.1; have c1 := hSw.2; go_simp⟩) hHeld ?_
  simp only [Act.put]
  refine wpAnyH_take (i := 2) (v := (.float .f32 df)) rfl (by kernel_rfl) (by kernel_rfl) (by kernel_rfl) (fun _ _ _ h => h) (Or.inl ⟨by rfl, fun w' hSw => by have c0 := hSw.1; have c1 := hSw.2; go_simp⟩) hHeld ?_
  simp only [Act.put]
  refine wpAnyH_take (i := 3) (v := (.float .f32 M)) rfl (by kernel_rfl) (by kernel_rfl) (by kernel_rfl) (fun _ _ _ h => h) (Or.inl ⟨by rfl, fun w' hSw => by have c0 := hSw.1; have c1 := hSw.2; go_simp⟩) hHeld ?_
  simp only [Act.put]
  refine wpAnyH_take (i := 4) (v := (.float .f32 N)) rfl (by kernel_rfl) (by kernel_rfl) (by kernel_rfl) (fun _ _ _ h => h) (Or.inl ⟨by rfl, fun w' hSw => by have c0 := hSw.1; have c1 := hSw.2; go_simp⟩) hHeld ?_
  simp only [Act.put]
  refine wpAnyH_take (i := 5) (v := (.float .f32 q)) rfl (by kernel_rfl) (by kernel_rfl) (by kernel_rfl) (fun _ _ _ h => h) (Or.inl ⟨by rfl, fun w' hSw => by have c0 := hSw.1; have c1 := hSw.2; go_simp⟩) hHeld ?_
  simp only [Act.put]
  refine wpAnyH_ready (rs := [6]) (by kernel_rfl) (by simp) ?_
  refine AllReadyH.cons (o := _) rfl (fun K hK => ?_) AllReadyH.nil
  rw [if_pos (by rfl)]
  go_simp
  refine (finNum_no q hf a _ ?_).mono ?_
  · exact HE.out.cell (below_drewN (Below.refl _ _) 1)
  rintro e w1 ⟨rfl, n, rfl⟩
  exact ⟨rfl, rfl, below_drewN (below_drewN (Below.refl _ _) 1) n⟩

set_option maxRecDepth 100000 in
set_option maxHeartbeats 1000000 in
theorem implCo_any (s : Int) (zs : Array Value) (hz : Floats zs) (a : Addr) (w : World) (hE : Err a w) : Calls Tryd.prog 12 #[.agg (pic s zs)] w fun e w' => e = .returned (.tuple #[.float .f32 (ansCo s zs ((s * s).toNat - 1)).1, .int .i64 (ansCo s zs ((s * s).toNat - 1)).2]) ∧ Below w.heap.size w w' := by
  have HS := Lib.hid (size32 s zs hz)
  have hc := impl_any s zs hz
  cases h0 : shown s zs
  · have HA : Hid (ansCo s zs ((s * s).toNat - 1) = (0, 1)) := Lib.hid (by unfold ansCo; rw [h0]; rfl)
    rw [h0] at hc
    have HC := Lib.hid hc
    generalize ansCo s zs ((s * s).toNat - 1) = A at *
    generalize pic s zs = cs at *
    clear hc hz h0
    go_enter Tryd.func12, Tryd.ntmps12
    go_wp2_with (first | fail | (refine wpList_load_row rfl 36 (.tmp 1) rfl w.heap.size rfl 36 cs (0, 0) _ (h1_0 _ _) Tryd.underlying36 rfl HS.out ?_))
    refine (HC.out _).mono ?_
    rintro e w1 ⟨rfl, b1⟩
    have B1 : Hid (Below w.heap.size w w1) := Lib.hid (((Below.refl w.heap.size w).alloc (Nat.le_refl _) _).trans (b1.mono (by rw [size_al]; omega)))
    clear b1
    go_wp2
    go_ret2
    exact ⟨by rw [HA.out]; rfl, B1.out⟩
  · obtain ⟨hs, t, rfl⟩ := shown_side s zs h0
    have hn64 : t * t - 1 < 64 := by have := sq_le t hs; omega
    have e2 : ((t : Int) * (t : Int)).toNat = t * t := by rw [← Int.natCast_mul]; rfl
    rw [e2]
    obtain ⟨q, df, _, _, f3, f4, f5⟩ := co_facts t zs hz h0 (t * t - 1) hn64
    have HT : Hid (∀ (b : Nat) (v : World), v.heap[b]? = some (.cells (pic t zs) 36 (0, 0)) → Calls Tryd.prog 30 #[.pointer (some ⟨b, 0, none⟩)] v fun e w' => e = .returned (.float .f32 (mxP zs (t * t - 1))) ∧ ∃ n, w' = v.drewN n) := Lib.hid fun b v hb => top_any b t hs zs hz h0 v hb
    have HB : Hid (∀ (b : Nat) (v : World), v.heap[b]? = some (.cells (pic t zs) 36 (0, 0)) → Calls Tryd.prog 31 #[.pointer (some ⟨b, 0, none⟩)] v fun e w' => e = .returned (.float .f32 (mnP zs (t * t - 1))) ∧ ∃ n, w' = v.drewN n) := Lib.hid fun b v hb => bottom_any b t hs zs hz h0 v hb
    rw [h0] at hc
    have HC := Lib.hid hc
    have HEE := Lib.hid hE
    clear hc hz h0 hE
    generalize ansCo t zs (t * t - 1) = A at *
    generalize topS zs (t * t - 1) = T at *
    generalize botS zs (t * t - 1) = B at *
    generalize mxP zs (t * t - 1) = M at *
    generalize mnP zs (t * t - 1) = N at *
    generalize pic t zs = cs at *
    clear e2 hs hn64
    go_enter Tryd.func12, Tryd.ntmps12
    go_wp2_with (first | fail | (refine wpList_load_row rfl 36 (.tmp 1) rfl w.heap.size rfl 36 cs (0, 0) _ (h1_0 _ _) Tryd.underlying36 rfl HS.out ?_))
    refine (HC.out _).mono ?_
    rintro e w1 ⟨rfl, b1⟩
    have P1 : Hid (w1.heap[w.heap.size]? = some (.cells cs 36 (0, 0))) := Lib.hid (by rw [b1.block _ (by rw [size_al]; omega)]; exact h1_0 _ _)
    have B1 : Hid (Below w.heap.size w w1) := Lib.hid (((Below.refl w.heap.size w).alloc (Nat.le_refl _) _).trans (b1.mono (by rw [size_al]; omega)))
    clear b1 HC
    go_wp2_with fail
    refine (HT.out w.heap.size w1 P1.out).mono ?_
    rintro e w2 ⟨rfl, n1, rfl⟩
    go_wp2_with fail
    refine (HB.out w.heap.size (w1.drewN n1) P1.out).mono ?_
    rintro e w2 ⟨rfl, n2, rfl⟩
    have B2 : Hid (Below w.heap.size w ((w1.drewN n1).drewN n2)) := Lib.hid (below_drewN (below_drewN B1.out _) _)
    clear B1 P1 HT HB
    generalize (w1.drewN n1).drewN n2 = v at *
    have E2 := Lib.hid (HEE.out.cell B2.out)
    go_upto_region 4 with fail
    have M3 : Hid (((v.alloc (.cells #[.float .f32 M] 30)).alloc (.cells #[.float .f32 N] 30)).heap[v.heap.size]? = some (.cells #[.float .f32 M] 30 (0, 0))) := Lib.hid (h2_0 _ _ _)
    have N3 : Hid (((v.alloc (.cells #[.float .f32 M] 30)).alloc (.cells #[.float .f32 N] 30)).heap[v.heap.size + 1]? = some (.cells #[.float .f32 N] 30 (0, 0))) := Lib.hid (h2_1 _ _ _)
    have B3 : Hid (Below v.heap.size v ((v.alloc (.cells #[.float .f32 M] 30)).alloc (.cells #[.float .f32 N] 30))) := Lib.hid (below_al2 _ _ _)
    generalize (v.alloc (.cells #[.float .f32 M] 30)).alloc (.cells #[.float .f32 N] 30) = u at *
    have B4 : Hid (Below w.heap.size w u) := Lib.hid (B2.out.trans (B3.out.mono B2.out.size))
    have E4 := Lib.hid (HEE.out.cell B4.out)
    have hm : u.cell? ⟨v.heap.size, 0, none⟩ = some (.float .f32 M) := by rw [cell_of_row _ _ _ _ _ _ M3.out]; rfl
    have hn : u.cell? ⟨v.heap.size + 1, 0, none⟩ = some (.float .f32 N) := by rw [cell_of_row _ _ _ _ _ _ N3.out]; rfl
    have HM := Lib.hid hm
    have HN := Lib.hid hn
    cases ht : eqz M
    · rw [ht] at f3
      obtain ⟨rfl, k3, k4, k1, k2⟩ := f5 f3.symm
      have ht' : (FloatKind.f32.format.order M 0 == some .eq) = false := ht
      cases hf : fin q
      · have HA := Lib.hid (k1 hf)
        have HD := Lib.hid (doorF_no 33 (.pointer (some ⟨v.heap.size, 0, none⟩)) (.pointer (some ⟨v.heap.size + 1, 0, none⟩)) a u E4.out (fun v => by simp [go_sem]) (Lib.hid fun x hx => closCo_no M N q df ⟨v.heap.size, 0, none⟩ ⟨v.heap.size + 1, 0, none⟩ a x (E4.out.cell hx) (by rw [hx.cell (World.block_lt_of_cell? _ _ HM.out)]; exact HM.out) (by rw [hx.cell (World.block_lt_of_cell? _ _ HN.out)]; exact HN.out) k3 k4 hf))
        clear f3 f4 f5 k1 k2 k3 k4 ht hf hn
        go_wp2_with (go_at_call 32; fail)
        refine HD.out.mono ?_
        rintro e w3 ⟨rfl, b3⟩
        have B5 : Hid (Below w.heap.size w w3) := Lib.hid (B4.out.trans (b3.mono B4.out.size))
        clear b3
        go_wp2
        go_ret2
        exact ⟨by rw [HA.out]; rfl, B5.out⟩
      · obtain ⟨r, hr, _, ha⟩ := k2 hf
        have HA := Lib.hid ha
        have HD := Lib.hid (doorF_yes 33 (.pointer (some ⟨v.heap.size, 0, none⟩)) (.pointer (some ⟨v.heap.size + 1, 0, none⟩)) r u (fun v => by simp [go_sem]) (Lib.hid fun x hx => closCo_yes M N q df r ⟨v.heap.size, 0, none⟩ ⟨v.heap.size + 1, 0, none⟩ x (by rw [hx.cell (World.block_lt_of_cell? _ _ HM.out)]; exact HM.out) (by rw [hx.cell (World.block_lt_of_cell? _ _ HN.out)]; exact HN.out) k3 k4 hf hr))
        clear f3 f4 f5 k1 k2 k3 k4 ht hf hn ha hr
        go_wp2_with (go_at_call 32; fail)
        refine HD.out.mono ?_
        rintro e w3 ⟨rfl, b3⟩
        have B5 : Hid (Below w.heap.size w w3) := Lib.hid (B4.out.trans (b3.mono B4.out.size))
        clear b3
        go_wp2
        go_ret2
        exact ⟨by rw [HA.out]; rfl, B5.out⟩
    · rw [ht] at f3
      have HA := Lib.hid (f4 f3.symm)
      have ht' : (FloatKind.f32.format.order M 0 == some .eq) = true := ht
      clear f3 f4 f5 ht hn
      go_wp2
      go_ret2
      exact ⟨by rw [HA.out]; rfl, B4.out⟩

set_option maxRecDepth 100000 in
set_option maxHeartbeats 1000000 in
theorem lawCo_any (s : Int) (zs : Array Value) (hz : Floats zs) (a : Addr) (w : World) (hE : Err a w) : Calls Tryd.prog 4 #[.agg (pic s zs)] w fun e w' => e = .returned (.bool true) ∧ Below w.heap.size w w' := by
  have HSP := Lib.hid (size30 s zs hz)
  have HA := Lib.hid (toPic_any s zs hz)
  have HS := Lib.hid (specCo_any s zs hz)
  have HI : Hid (∀ v, Err a v → Calls Tryd.prog 12 #[.agg (pic s zs)] v fun e w' => e = .returned (.tuple #[.float .f32 (ansCo s zs ((s * s).toNat - 1)).1, .int .i64 (ansCo s zs ((s * s).toNat - 1)).2]) ∧ Below v.heap.size v w') := Lib.hid fun v hv => implCo_any s zs hz a v hv
  obtain ⟨c, hc, hown⟩ := conv_notnan _ (ansCo_num s zs hz)
  have hcv := fun w => run_convert_float_float (P := Tryd.prog) w 30 39 .f32 .f64 _ c (by rw [Tryd.underlying30]; rfl) Tryd.underlying39 hc
  have HO := Lib.hid hown
  have HEE := Lib.hid hE
  clear hc hown hE hz
  generalize (ansCo s zs ((s * s).toNat - 1)).1 = r at *
  generalize (ansCo s zs ((s * s).toNat - 1)).2 = k at *
  generalize pic s zs = cs at *
  have hkk : (k != k) = false := by simp
  go_enter Tryd.func4, Tryd.ntmps4
  go_wp2_with (first | fail | (refine wpList_load_row rfl 33 (.tmp 1) rfl w.heap.size rfl 33 cs (0, 0) _ (h1_0 _ _) Tryd.underlying33 rfl HSP.out ?_))
  refine (HA.out _).mono ?_
  rintro e w1 ⟨rfl, b1⟩
  have P1 : Hid (w1.heap[w.heap.size]? = some (.cells cs 33 (0, 0))) := Lib.hid (by rw [b1.block _ (by rw [size_al]; omega)]; exact h1_0 _ _)
  have B1 : Hid (Below w.heap.size w w1) := Lib.hid (((Below.refl w.heap.size w).alloc (Nat.le_refl _) _).trans (b1.mono (by rw [size_al]; omega)))
  clear b1
  go_wp2_with fail
  refine (HS.out _).mono ?_
  rintro e w2 ⟨rfl, b2⟩
  have P2 : Hid (w2.heap[w.heap.size]? = some (.cells cs 33 (0, 0))) := Lib.hid (by rw [b2.block _ (Array.getElem?_eq_some_iff.1 P1.out).1]; exact P1.out)
  have B2 : Hid (Below w.heap.size w w2) := Lib.hid (B1.out.trans (b2.mono B1.out.size))
  clear b2 P1 B1
  go_wp2_with (first | fail | (refine wpList_load_row rfl 33 (.tmp 1) rfl w.heap.size rfl 33 cs (0, 0) _ P2.out Tryd.underlying33 rfl HSP.out ?_))
  refine (HA.out _).mono ?_
  rintro e w3 ⟨rfl, b3⟩
  have B3 : Hid (Below w.heap.size w w3) := Lib.hid (B2.out.trans (b3.mono B2.out.size))
  clear b3 P2 B2
  go_wp2_with fail
  refine (HI.out _ (HEE.out.cell B3.out)).mono ?_
  rintro e w4 ⟨rfl, b4⟩
  have B4 : Hid (Below w.heap.size w w4) := Lib.hid (B3.out.trans (b4.mono B3.out.size))
  clear b4 B3
  go_wp2_with fail
  refine (sameFloat_refl c HO.out _).mono ?_
  rintro e w' ⟨rfl, rfl⟩
  go_wp2
  go_ret
  exact ⟨rfl, B4.out⟩
end Go.Proofs.YtjmfffgddmnkmabDoor
