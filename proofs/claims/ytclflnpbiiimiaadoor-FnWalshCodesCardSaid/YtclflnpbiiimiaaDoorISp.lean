/- The program's sum of a picture by a code: the sum and the code. Condition: 64 floats. -/
import Derived.Test.YtclflnpbiiimiaaDoorM23
import Derived.Test.YtclflnpbiiimiaaDoorImpl
import Derived.Test.YtclflnpbiiimiaaDoorRh
import Derived.Test.YtclflnpbiiimiaaDoorRx
import Derived.BigQuiet
namespace Go.Proofs.YtclflnpbiiimiaaDoor
open Go Go.RowKit Ieee

theorem acc_congr10 {f g : Nat → Nat} : ∀ n, (∀ j, j < n → f j = g j) → accTo f n = accTo g n
  | 0, _ => rfl
  | n + 1, h => by rw [accTo, accTo, acc_congr10 n (fun j hj => h j (by omega)), h n (by omega)]

set_option maxRecDepth 100000 in
theorem lev10_any (b s N : Nat) (hN : N = s * s) (hss : N ≤ 64) (w : World) (h0 : w.cell? ⟨b, 0, none⟩ = some (.int .i64 s)) :
    Calls Tryd.prog 56 #[.pointer (some ⟨b, 0, none⟩)] w fun e w' => e = .returned (.slice (some ⟨b, 1, none⟩) N 64) ∧ ∃ n, w' = w.drewN n := by
  have hw0 : IntKind.i64.wrap ((s : Int) * (s : Int)) = (N : Int) := by rw [← Int.natCast_mul, ← hN]; exact IntWalk.i64_in _ (by omega)
  have h1 : (0 : Int) ≤ (N : Int) := by omega
  have h2 : (N : Int) ≤ 64 := by omega
  clear hN
  go_enter Tryd.func56, Tryd.ntmps56
  go_wp2_with fail
  go_quiet (fail)
  go_wp2
  go_ret
  exact ⟨rfl, _, rfl⟩

set_option maxRecDepth 100000 in
set_option maxHeartbeats 800000 in
theorem implSp_none (s : Int) (zs : Array Value) (hz : Floats zs) (k : Int) (h : shown s zs = false) : FloatC 20 s zs k (spV s zs k) (spC s zs k) := by
  intro w
  have HE : Hid (spV s zs k = 0 ∧ spC s zs k = 1) := Lib.hid ⟨by unfold spV; rw [if_pos h], by unfold spC; rw [if_pos h]⟩
  rw [HE.out.1, HE.out.2]
  have HI : Hid ((Tryd.prog.info? 41).map (·.size) = some (pic s zs).size) := Lib.hid (by rw [pic_size s zs hz.1]; exact (zero_of_info info32).2)
  have HC : Hid (∀ u, Calls Tryd.prog 54 #[.agg (pic s zs)] u fun e w' => e = .returned (.bool false) ∧ Below u.heap.size u w') := Lib.hid (fun u => by rw [← h]; exact impl_any s zs hz u)
  generalize pic s zs = cs at *
  clear h hz HE
  go_enter Tryd.func20, Tryd.ntmps20
  go_wp2_with (first | fail | (refine wpList_load_row rfl 41 (.tmp 2) rfl w.heap.size rfl 41 cs (0, 0) _ (h1_0 _ _) Tryd.underlying41 rfl HI.out ?_))
  refine (HC.out _).mono ?_
  rintro e w1 ⟨rfl, b1⟩
  have B1 : Hid (Below w.heap.size w w1) := Lib.hid (((Below.refl w.heap.size w).alloc (Nat.le_refl _) _).trans (b1.mono (by rw [size_al]; omega)))
  clear b1
  go_wp2_with fail
  go_ret2
  exact ⟨rfl, B1.out⟩

set_option maxRecDepth 100000 in
set_option maxHeartbeats 1600000 in
theorem implSp_shown (s : Nat) (zs : Array Value) (hz : Floats zs) (k : Int) (h : shown s zs = true) : FloatC 20 s zs k (spV s zs k) (spC s zs k) := by
  intro w
  have HI : Hid ((Tryd.prog.info? 41).map (·.size) = some (pic s zs).size) := Lib.hid (by rw [pic_size s zs hz.1]; exact (zero_of_info info32).2)
  have HC : Hid (∀ u, Calls Tryd.prog 54 #[.agg (pic s zs)] u fun e w' => e = .returned (.bool true) ∧ Below u.heap.size u w') := Lib.hid (fun u => by rw [← h]; exact impl_any s zs hz u)
  obtain ⟨hs, hfin⟩ := shown_fin s zs h
  have H0 := Lib.hid (pic_zero s zs)
  have HLV : Hid (∀ i, i < 64 → (pic s zs)[1 + i]? = some (.float .f32 (bitsAt zs i)) ∧ fin (bitsAt zs i) = true) := Lib.hid (fun i hi => ⟨by rw [Nat.add_comm, pic_succ]; exact level_at zs hz i hi, hfin i hi⟩)

  obtain ⟨N, hN⟩ : ∃ N, N = s * s := ⟨_, rfl⟩
  have hss : 1 ≤ N ∧ N ≤ 64 := by
    rw [hN]
    rcases side_yes _ hs with e | e | e | e
    · obtain rfl : s = 1 := by omega
      decide
    · obtain rfl : s = 2 := by omega
      decide
    · obtain rfl : s = 4 := by omega
      decide
    · obtain rfl : s = 8 := by omega
      decide
  have hsq : (s : Int) * s = (N : Int) := by rw [hN, Int.natCast_mul]
  have e1 : IntKind.i64.wrap ((s : Int) * s) = (N : Int) := by rw [hsq]; exact IntWalk.i64_in _ (by omega)
  have e2 : IntKind.i64.wrap ((N : Int) - 1) = (N : Int) - 1 := IntWalk.i64_in _ (by omega)
  have hok : spOk s k = (decide ((0 : Int) ≤ k) && decide (k ≤ (N : Int) - 1)) := by unfold spOk; rw [hsq]
  have HBT := Lib.hid (fun w => between_b 0 k ((N : Int) - 1) w)
  rw [← hok] at HBT
  have HLEV := Lib.hid (fun b w h0 => lev10_any b s N hN hss.2 w h0)
  obtain ⟨av, hav⟩ : ∃ x, x = spV s zs k := ⟨_, rfl⟩
  obtain ⟨ac, hac⟩ : ∃ x, x = spC s zs k := ⟨_, rfl⟩
  rw [← hav, ← hac]
  have HX : Hid (spOk s k = false → av = 0 ∧ ac = 2) := Lib.hid (fun hk => ⟨by rw [hav]; unfold spV; rw [if_neg (by rw [h]; decide), if_pos hk], by rw [hac]; unfold spC; rw [if_neg (by rw [h]; decide), if_pos hk]⟩)
  have HY : Hid (spOk s k = true → av = (accTo (spF zs k.toNat) N).getD 0 ∧ ac = (if (accTo (spF zs k.toNat) N).isSome then 0 else 3) ∧ ∃ q : Nat, k = q ∧ q < N) := Lib.hid (fun hk => by
    have e : spAcc s zs k = accTo (spF zs k.toNat) N := by
      unfold spAcc
      rw [hsq, Int.toNat_natCast]
    refine ⟨by rw [hav]; unfold spV; rw [if_neg (by rw [h]; decide), if_neg (by rw [hk]; decide), e], by rw [hac]; unfold spC; rw [if_neg (by rw [h]; decide), if_neg (by rw [hk]; decide), e], ?_⟩
    rw [hok] at hk
    simp only [Bool.and_eq_true, decide_eq_true_eq] at hk
    exact ⟨k.toNat, by omega, by omega⟩)
  have HSS := Lib.hid hss
  generalize pic s zs = cs at *
  clear h hz hs hfin hN hsq hok hav hac hss
  generalize hkk : spOk s k = kk at *
  clear hkk
  go_enter Tryd.func20, Tryd.ntmps20
  go_wp2_with (first | fail | (refine wpList_load_row rfl 41 (.tmp 2) rfl w.heap.size rfl 41 cs (0, 0) _ (h1_0 _ _) Tryd.underlying41 rfl HI.out ?_))
  refine (HC.out _).mono ?_
  rintro e w1 ⟨rfl, b1⟩
  have B1 : Hid (Below w.heap.size w w1) := Lib.hid (((Below.refl w.heap.size w).alloc (Nat.le_refl _) _).trans (b1.mono (by rw [size_al]; omega)))
  have R1 : Hid (w1.heap[w.heap.size]? = some (.cells cs 41 (0, 0))) := Lib.hid (by rw [b1.block _ (by rw [size_al]; omega)]; exact h1_0 _ _)
  clear b1
  have k0 : w1.cell? ⟨w.heap.size, 0, none⟩ = some (.int .i64 s) := by rw [cell_of_row _ _ _ _ _ _ R1.out]; exact H0.out
  go_wp2_with fail
  refine (HBT.out _).mono ?_
  rintro e w2 ⟨rfl, rfl⟩
  cases kk
  · obtain ⟨h1, h2⟩ := HX.out rfl
    have E1 := Lib.hid h1
    have E2 := Lib.hid h2
    clear h1 h2
    go_wp2_with fail
    go_ret2
    exact ⟨by rw [E1.out, E2.out]; rfl, B1.out⟩
  · obtain ⟨h1, h2, q, rfl, hq⟩ := HY.out rfl
    rw [Int.toNat_natCast] at h1 h2
    have E1 := Lib.hid h1
    have E2 := Lib.hid h2
    have HQ := Lib.hid hq
    have HLV2 := Lib.hid (HLEV.out w.heap.size w1 k0)
    clear h1 h2 hq
    go_wp2_with fail
    refine HLV2.out.mono ?_
    rintro e w3 ⟨rfl, d, rfl⟩
    have B3 := Lib.hid (below_drewN B1.out d)
    have R3 : Hid ((w1.drewN d).heap[w.heap.size]? = some (.cells cs 41 (0, 0))) := Lib.hid R1.out
    clear k0
    generalize w1.drewN d = w3 at *
    have HW := Lib.hid (walsh_any N q HSS.out.2 (by have := HSS.out; have := HQ.out; omega))
    have HSZ : Hid (w.heap.size < w3.heap.size) := Lib.hid (Array.getElem?_eq_some_iff.1 R3.out).1
    have HLL : Hid (((List.range N).map (bitsAt zs)).all fin = true) := Lib.hid (by
      rw [List.all_eq_true]
      intro x hx
      obtain ⟨i, hi, rfl⟩ := List.mem_map.1 hx
      exact (HLV.out i (by have := List.mem_range.1 hi; have := HSS.out; omega)).2)
    have HGD : Hid (∀ i, i < N → ((List.range N).map (bitsAt zs)).getD i 0 = bitsAt zs i) := Lib.hid (fun i hi => by simp [List.getD_eq_getElem?_getD, hi])
    go_wp2_with fail
    refine (HW.out _).mono ?_
    rintro e w4 ⟨⟨lb, rfl, hS⟩, hb⟩
    have HC4 : Hid (CameF (some ⟨w.heap.size, 1, none⟩) N ((List.range N).map (bitsAt zs)) w4) := Lib.hid ⟨by simp, fun _ => ⟨w.heap.size, 1, rfl, Nat.lt_of_lt_of_le HSZ.out hb.size, fun i hi => by
      rw [hb.cell (p := ⟨w.heap.size, 1 + i, none⟩) HSZ.out, cell_of_row _ _ _ _ _ _ R3.out, HGD.out i hi]
      exact (HLV.out i (by have := HSS.out; omega)).1⟩⟩
    have B4 := Lib.hid (B3.out.trans (hb.mono B3.out.size))
    have HSM := Lib.hid (sumOf_any N HSS.out.2 (fun j => wal q j) (fun j _ => sg_fin _) lb _ 64 _ w4 HLL.out HC4.out hS)
    have HAC : Hid (accTo (fun j => mulF (((List.range N).map (bitsAt zs)).getD j 0) (wal q j)) N = accTo (spF zs q) N) := Lib.hid (acc_congr10 N (fun j hj => by rw [HGD.out j hj]; rfl))
    rw [HAC.out] at HSM
    clear hS hb HAC HC4
    go_wp2_with fail
    refine HSM.out.mono ?_
    rintro e w5 ⟨⟨r, rfl, hr⟩, hb⟩
    have B5 := Lib.hid (B4.out.trans (hb.mono B4.out.size))
    have HF5 := Lib.hid (finite_any r w5)
    rcases hr with ⟨hr1, hr2⟩ | ⟨hr1, hr2⟩
    · have E3 : Hid (av = r ∧ ac = 0) := Lib.hid ⟨by rw [E1.out, hr1]; rfl, by rw [E2.out, hr1]; rfl⟩
      rw [hr2] at HF5
      clear hb hr1 hr2
      go_wp2_with fail
      refine HF5.out.mono ?_
      rintro e w6 ⟨rfl, d, rfl⟩
      have B6 := Lib.hid (below_drewN B5.out d)
      generalize w5.drewN d = w6 at *
      go_wp2_with fail
      go_ret2
      exact ⟨by rw [E3.out.1, E3.out.2]; rfl, B6.out⟩
    · have E3 : Hid (av = 0 ∧ ac = 3) := Lib.hid ⟨by rw [E1.out, hr1]; rfl, by rw [E2.out, hr1]; rfl⟩
      rw [hr2] at HF5
      clear hb hr1 hr2
      go_wp2_with fail
      refine HF5.out.mono ?_
      rintro e w6 ⟨rfl, d, rfl⟩
      have B6 := Lib.hid (below_drewN B5.out d)
      generalize w5.drewN d = w6 at *
      go_wp2_with fail
      go_ret2
      exact ⟨by rw [E3.out.1, E3.out.2]; rfl, B6.out⟩

theorem implSp (s : Int) (zs : Array Value) (hz : Floats zs) (k : Int) : FloatC 20 s zs k (spV s zs k) (spC s zs k) := by
  cases h : shown s zs
  · exact implSp_none s zs hz k h
  · obtain ⟨n, rfl⟩ : ∃ n : Nat, s = n := ⟨s.toNat, by
      have := (shown_fin s zs h).1
      rcases side_yes _ this with e | e | e | e <;> omega⟩
    exact implSp_shown n zs hz k h

end Go.Proofs.YtclflnpbiiimiaaDoor
