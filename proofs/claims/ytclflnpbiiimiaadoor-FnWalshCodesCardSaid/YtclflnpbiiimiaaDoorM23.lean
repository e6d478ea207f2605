/- The program's lists of told numbers, with the error where one is not finite. Condition: at most 64 places. The model's sum of a picture by a code: the sum and the code. Condition: 64 floats. -/
import Derived.Test.YtclflnpbiiimiaaDoorM20
import Derived.Test.YtclflnpbiiimiaaDoorM22
import Derived.Test.YtclflnpbiiimiaaDoorM18
import Derived.Test.YtclflnpbiiimiaaDoorM14
import Derived.Test.YtclflnpbiiimiaaDoorM5
import Derived.Test.YtclflnpbiiimiaaDoorM2
namespace Go.Proofs.YtclflnpbiiimiaaDoor
open Go Go.RowKit Go.Shelf

end Go.Proofs.YtclflnpbiiimiaaDoor

namespace Go.Proofs.YtclflnpbiiimiaaDoor
open Go Go.RowKit Ieee

theorem okTo_all (n : Nat) (zs : Array Value) (m k : Nat) (h : okTo n zs m = true) (hk : k < m) : okCell n k (bitsAt zs k) = true := by
  induction m with
  | zero => omega
  | succ m ih =>
    rw [okTo, Bool.and_eq_true] at h
    by_cases e : k = m
    · subst e; exact h.2
    · exact ih h.1 (by omega)
theorem shown_fin (s : Int) (zs : Array Value) (h : shown s zs = true) : side s = true ∧ ∀ k, k < 64 → fin (bitsAt zs k) = true := by
  unfold shown at h
  rw [Bool.and_eq_true] at h
  refine ⟨h.1, fun k hk => ?_⟩
  have := okTo_all _ zs 64 k h.2 hk
  unfold okCell at this
  simp only [Bool.and_eq_true] at this
  exact this.1.1
theorem level_at (zs : Array Value) (hz : Floats zs) (k : Nat) (hk : k < 64) : zs[k]? = some (.float .f32 (bitsAt zs k)) := by
  obtain ⟨x, _, h⟩ := hz.2 k hk
  rw [bitsAt_of zs k x h, h]

def spF (zs : Array Value) (k : Nat) : Nat → Nat := fun i => mulF (bitsAt zs i) (wal k i)
def spOk (s k : Int) : Bool := decide (0 ≤ k) && decide (k ≤ s * s - 1)
def spAcc (s : Int) (zs : Array Value) (k : Int) : Option Nat := accTo (spF zs k.toNat) (s * s).toNat
def spC (s : Int) (zs : Array Value) (k : Int) : Int := if shown s zs = false then 1 else if spOk s k = false then 2 else if (spAcc s zs k).isSome then 0 else 3
def spV (s : Int) (zs : Array Value) (k : Int) : Nat := if shown s zs = false then 0 else if spOk s k = false then 0 else (spAcc s zs k).getD 0
/-- what is asked of a function of a picture and a number that answers a number and a code -/
def FloatC (f : FuncId) (s : Int) (zs : Array Value) (k : Int) (v : Nat) (c : Int) : Prop :=
  ∀ w, Calls Tryd.prog f #[.agg (pic s zs), .int .i64 k] w fun e w' => e = .returned (.tuple #[.float .f32 v, .int .i64 c]) ∧ Below w.heap.size w w'

set_option maxRecDepth 100000 in
set_option maxHeartbeats 800000 in
theorem specSp_none (s : Int) (zs : Array Value) (hz : Floats zs) (k : Int) (h : shown s zs = false) : FloatC 21 s zs k (spV s zs k) (spC s zs k) := by
  intro w
  have HE : Hid (spV s zs k = 0 ∧ spC s zs k = 1) := Lib.hid ⟨by unfold spV; rw [if_pos h], by unfold spC; rw [if_pos h]⟩
  rw [HE.out.1, HE.out.2]
  have HI : Hid ((Tryd.prog.info? 41).map (·.size) = some (pic s zs).size) := Lib.hid (by rw [pic_size s zs hz.1]; exact (zero_of_info info32).2)
  have HC : Hid (∀ u, Calls Tryd.prog 58 #[.agg (pic s zs)] u fun e w' => e = .returned (.bool false) ∧ Below u.heap.size u w') := Lib.hid (fun u => by rw [← h]; exact shown_any s zs hz u)
  generalize pic s zs = cs at *
  clear h hz HE
  go_enter Tryd.func21, Tryd.ntmps21
  go_wp2_with (first | fail | (refine wpList_load_row rfl 41 (.tmp 2) rfl w.heap.size rfl 41 cs (0, 0) _ (h1_0 _ _) Tryd.underlying41 rfl HI.out ?_))
  refine (HC.out _).mono ?_
  rintro e w1 ⟨rfl, b1⟩
  have B1 : Hid (Below w.heap.size w w1) := Lib.hid (((Below.refl w.heap.size w).alloc (Nat.le_refl _) _).trans (b1.mono (by rw [size_al]; omega)))
  clear b1
  go_wp2_with fail
  go_ret2
  exact ⟨rfl, B1.out⟩

set_option maxRecDepth 100000 in
set_option maxHeartbeats 800000 in
theorem specSp_out (s : Nat) (zs : Array Value) (hz : Floats zs) (k : Int) (h : shown s zs = true) (hk : spOk s k = false) : FloatC 21 s zs k (spV s zs k) (spC s zs k) := by
  intro w
  have HE : Hid (spV s zs k = 0 ∧ spC s zs k = 2) := Lib.hid ⟨by unfold spV; rw [if_neg (by rw [h]; decide), if_pos hk], by unfold spC; rw [if_neg (by rw [h]; decide), if_pos hk]⟩
  rw [HE.out.1, HE.out.2]
  have HI : Hid ((Tryd.prog.info? 41).map (·.size) = some (pic s zs).size) := Lib.hid (by rw [pic_size s zs hz.1]; exact (zero_of_info info32).2)
  have HC : Hid (∀ u, Calls Tryd.prog 58 #[.agg (pic s zs)] u fun e w' => e = .returned (.bool true) ∧ Below u.heap.size u w') := Lib.hid (fun u => by rw [← h]; exact shown_any s zs hz u)
  have hs := (shown_fin s zs h).1
  have H0 := Lib.hid (pic_zero s zs)
  have hss : 1 ≤ s * s ∧ s * s ≤ 64 := by
    rcases side_yes _ hs with e | e | e | e
    · obtain rfl : s = 1 := by omega
      decide
    · obtain rfl : s = 2 := by omega
      decide
    · obtain rfl : s = 4 := by omega
      decide
    · obtain rfl : s = 8 := by omega
      decide
  have hsq : (s : Int) * s = ((s * s : Nat) : Int) := by rw [Int.natCast_mul]
  have e1 : IntKind.i64.wrap ((s : Int) * s) = ((s * s : Nat) : Int) := (IntWalk.i64_in _ (by omega)).trans hsq
  have e2 : IntKind.i64.wrap (((s * s : Nat) : Int) - 1) = ((s * s : Nat) : Int) - 1 := IntWalk.i64_in _ (by omega)
  unfold spOk at hk
  rw [hsq] at hk
  have HIN : Hid (∀ z, Calls Tryd.prog 40 #[.int .i64 k, .int .i64 0, .int .i64 (((s * s : Nat) : Int) - 1)] z fun e w' => e = .returned (.bool false) ∧ z = w') := Lib.hid (fun z => by rw [← hk]; exact l01In_of k 0 _ z)
  generalize pic s zs = cs at *
  clear h hz HE hk hs hsq hss
  generalize ((s * s : Nat) : Int) = sq at *
  go_enter Tryd.func21, Tryd.ntmps21
  go_wp2_with (first | fail | (refine wpList_load_row rfl 41 (.tmp 2) rfl w.heap.size rfl 41 cs (0, 0) _ (h1_0 _ _) Tryd.underlying41 rfl HI.out ?_))
  refine (HC.out _).mono ?_
  rintro e w1 ⟨rfl, b1⟩
  have B1 : Hid (Below w.heap.size w w1) := Lib.hid (((Below.refl w.heap.size w).alloc (Nat.le_refl _) _).trans (b1.mono (by rw [size_al]; omega)))
  have g1 : w1.heap[w.heap.size]? = some (.cells cs 41 (0, 0)) := by rw [b1.block _ (by rw [size_al]; omega)]; exact h1_0 _ _
  have c0 : w1.cell? ⟨w.heap.size, 0, none⟩ = some (.int .i64 (s : Int)) := by rw [cell_of_row _ _ _ _ _ _ g1]; exact H0.out
  clear b1 g1
  go_wp2_with fail
  refine (HIN.out _).mono ?_
  rintro e w' ⟨rfl, rfl⟩
  go_wp2_with fail
  go_ret2
  exact ⟨rfl, B1.out⟩

set_option maxRecDepth 100000 in
set_option maxHeartbeats 1600000 in
theorem specSp_yes (s : Nat) (zs : Array Value) (hz : Floats zs) (k : Nat) (h : shown s zs = true) (hk : spOk s k = true) : FloatC 21 s zs k (spV s zs k) (spC s zs k) := by
  intro w
  have HE : Hid (spV s zs k = (accTo (spF zs k) (s * s)).getD 0 ∧ spC s zs k = (if (accTo (spF zs k) (s * s)).isSome then 0 else 3)) := Lib.hid (by
    have e : spAcc s zs k = accTo (spF zs k) (s * s) := by
      unfold spAcc
      rw [Int.toNat_natCast, ← Int.natCast_mul, Int.toNat_natCast]
    exact ⟨by unfold spV; rw [if_neg (by rw [h]; decide), if_neg (by rw [hk]; decide), e], by unfold spC; rw [if_neg (by rw [h]; decide), if_neg (by rw [hk]; decide), e]⟩)
  generalize spV s zs k = av at *
  generalize spC s zs k = ac at *
  have HI : Hid ((Tryd.prog.info? 41).map (·.size) = some (pic s zs).size) := Lib.hid (by rw [pic_size s zs hz.1]; exact (zero_of_info info32).2)
  have HC : Hid (∀ u, Calls Tryd.prog 58 #[.agg (pic s zs)] u fun e w' => e = .returned (.bool true) ∧ Below u.heap.size u w') := Lib.hid (fun u => by rw [← h]; exact shown_any s zs hz u)
  obtain ⟨hs, hfin⟩ := shown_fin s zs h
  have H0 := Lib.hid (pic_zero s zs)
  have HLV : Hid (∀ i, i < 64 → (pic s zs)[1 + i]? = some (.float .f32 (bitsAt zs i)) ∧ fin (bitsAt zs i) = true) := Lib.hid (fun i hi => ⟨by rw [Nat.add_comm, pic_succ]; exact level_at zs hz i hi, hfin i hi⟩)
  have hss : 1 ≤ s * s ∧ s * s ≤ 64 := by
    rcases side_yes _ hs with e | e | e | e
    · obtain rfl : s = 1 := by omega
      decide
    · obtain rfl : s = 2 := by omega
      decide
    · obtain rfl : s = 4 := by omega
      decide
    · obtain rfl : s = 8 := by omega
      decide
  have hsq : (s : Int) * s = ((s * s : Nat) : Int) := by rw [Int.natCast_mul]
  have e1 : IntKind.i64.wrap ((s : Int) * s) = ((s * s : Nat) : Int) := (IntWalk.i64_in _ (by omega)).trans hsq
  have e2 : IntKind.i64.wrap (((s * s : Nat) : Int) - 1) = ((s * s : Nat) : Int) - 1 := IntWalk.i64_in _ (by omega)
  have hkk := hk
  unfold spOk at hkk
  rw [hsq] at hkk
  have HIN : Hid (∀ z, Calls Tryd.prog 40 #[.int .i64 (k : Int), .int .i64 0, .int .i64 (((s * s : Nat) : Int) - 1)] z fun e w' => e = .returned (.bool true) ∧ z = w') := Lib.hid (fun z => by rw [← hkk]; exact l01In_of _ 0 _ z)
  simp only [Bool.and_eq_true, decide_eq_true_eq] at hkk
  have HWL := Lib.hid (l10Walsh_any (s * s) k hss.2 (by omega))
  have HWG : Hid (∀ i, i < s * s → (walsh (s * s) k).getD i 0 = wal k i) := Lib.hid (fun i hi => by unfold walsh; simp [List.getD_eq_getElem?_getD, hi])
  have HWF : Hid (∀ i, fin (wal k i) = true) := Lib.hid (fun i => sg_fin _)
  have HF : Hid (∀ i, spF zs k i = mulF (bitsAt zs i) (wal k i)) := Lib.hid (fun i => rfl)
  have HN := Lib.hid hss
  have hwl := walsh_len (s * s) k
  generalize walsh (s * s) k = W at *
  generalize pic s zs = cs at *
  have HWN := Lib.hid hwl
  have hn64 := hss.2
  clear h hz hk hs hsq hss hkk hfin hwl
  generalize s * s = N at *
  go_enter Tryd.func21, Tryd.ntmps21
  go_wp2_with (first | fail | (refine wpList_load_row rfl 41 (.tmp 2) rfl w.heap.size rfl 41 cs (0, 0) _ (h1_0 _ _) Tryd.underlying41 rfl HI.out ?_))
  refine (HC.out _).mono ?_
  rintro e w1 ⟨rfl, b1⟩
  have B1 : Hid (Below w.heap.size w w1) := Lib.hid (((Below.refl w.heap.size w).alloc (Nat.le_refl _) _).trans (b1.mono (by rw [size_al]; omega)))
  have g1 : w1.heap[w.heap.size]? = some (.cells cs 41 (0, 0)) := by rw [b1.block _ (by rw [size_al]; omega)]; exact h1_0 _ _
  have c0 : w1.cell? ⟨w.heap.size, 0, none⟩ = some (.int .i64 (s : Int)) := by rw [cell_of_row _ _ _ _ _ _ g1]; exact H0.out
  have G1 := Lib.hid g1
  clear b1 g1
  go_wp2_with fail
  refine (HIN.out _).mono ?_
  rintro e w' ⟨rfl, rfl⟩
  go_wp2_with fail
  refine (HWL.out _).mono ?_
  rintro e w2 ⟨v, rfl, o, kk⟩
  obtain ⟨ad, cp, rfl, oc⟩ := o.came
  have hl1 : w.heap.size < w1.heap.size := (Array.getElem?_eq_some_iff.1 G1.out).1
  have G2 : Hid (w2.heap[w.heap.size]? = some (.cells cs 41 (0, 0))) := Lib.hid (by rw [kk.block _ hl1]; exact G1.out)
  have B2 : Hid (Below w.heap.size w w2) := Lib.hid (B1.out.trans (kk.mono B1.out.size))
  have OC := Lib.hid oc
  rw [HWN.out] at OC ⊢
  clear o kk oc HWL c0 G1 B1 hl1
  go_wp2_with fail
  go_loopw [8, 7] (fun i v wr => ∃ j x : Nat, j ≤ N ∧ i = .int .i64 j ∧ v = .float .f32 x ∧ Hid (accTo (spF zs k) j = some x) ∧ Hid (∃ d, wr = w2.drewN d)) (fun i _ _ => N - (intOf i).toNat)
  case atStart => exact ⟨0, 0, by omega, rfl, rfl, Lib.hid rfl, Lib.hid ⟨0, rfl⟩⟩
  case round =>
    obtain ⟨j, x, hj, rfl, rfl, HS, HW⟩ := hrel
    by_cases hlj : j < N
    · have hdj : decide ((j : Int) < (N : Int)) = true := by simp; omega
      obtain ⟨b, off, rfl, hb, hc⟩ := OC.out.2 (by omega)
      have p1 : wr.cell? ⟨w.heap.size, 1 + j, none⟩ = some (.float .f32 (bitsAt zs j)) := by
        obtain ⟨d, rfl⟩ := HW.out
        rw [World.cell?_drewN, cell_of_row _ _ _ _ _ _ G2.out]
        exact (HLV.out j (by omega)).1
      have p2 : wr.cell? ⟨b, off + j, none⟩ = some (.float .f32 (wal k j)) := by
        obtain ⟨d, rfl⟩ := HW.out
        rw [World.cell?_drewN, hc j hlj, HWG.out j hlj]
      obtain ⟨m1, m2⟩ := mulF_fin (bitsAt zs j) (wal k j) (HLV.out j (by omega)).2 (HWF.out j)
      have HM := Lib.hid (HF.out j)
      clear hb hc
      generalize bitsAt zs j = y at *
      generalize wal k j = z at *
      have ad1 := addF_num x (mulF y z) (acc_fin HS.out) m2
      have h1 := fun w => run_float_arith (P := Tryd.prog) w .mul 38 .f32 y z (mulF y z) m1
      have h2 := fun w => run_float_arith (P := Tryd.prog) w .add 38 .f32 x (mulF y z) (addF x (mulF y z)) ad1
      have HYES : Hid (fin (addF x (mulF y z)) = true → accTo (spF zs k) (j + 1) = some (addF x (mulF y z))) := Lib.hid (fun hf => by
        have := acc_step HS.out (by rw [HM.out]; exact hf)
        rwa [HM.out] at this)
      have HNO : Hid (fin (addF x (mulF y z)) = false → accTo (spF zs k) N = none) := Lib.hid (fun hf => acc_end (acc_stop HS.out (by rw [HM.out]; exact hf)) (by omega))
      generalize mulF y z = p at *
      generalize addF x p = r at *
      clear m1 m2 ad1 HM
      go_wp2_with fail
      go_quiet (fail)
      have HW1 : Hid (∃ d, wr.drewN nq = w2.drewN d) := Lib.hid (by obtain ⟨d, h⟩ := HW.out; exact ⟨_, by rw [h, World.drewN_drewN]⟩)
      clear p1 p2
      generalize wr.drewN nq = u at *
      go_wp2_with fail
      refine (fine_any r _).mono ?_
      rintro e w3 ⟨rfl, d, rfl⟩
      have HW2 : Hid (∃ d', u.drewN d = w2.drewN d') := Lib.hid (by obtain ⟨d0, h⟩ := HW1.out; exact ⟨_, by rw [h, World.drewN_drewN]⟩)
      generalize u.drewN d = u2 at *
      cases hf : fin r
      · have HNN := Lib.hid (HNO.out hf)
        have BU : Hid (Below w.heap.size w u2) := Lib.hid (by obtain ⟨d0, rfl⟩ := HW2.out; exact below_drewN B2.out d0)
        go_wp2_with fail
        go_ret2
        rw [HE.out.1, HE.out.2, HNN.out]
        exact ⟨rfl, BU.out⟩
      · have HY := Lib.hid (HYES.out hf)
        go_wp2_with fail
        exact ⟨⟨j + 1, r, by omega, by go_num, rfl, HY, HW2⟩, by simp [intOf]; omega⟩
    · obtain rfl : j = N := by omega
      have BU : Hid (Below w.heap.size w wr) := Lib.hid (by obtain ⟨d0, rfl⟩ := HW.out; exact below_drewN B2.out d0)
      go_wp2_with fail
      go_ret2
      rw [HE.out.1, HE.out.2, HS.out]
      exact ⟨rfl, BU.out⟩

theorem specSp (s : Int) (zs : Array Value) (hz : Floats zs) (k : Int) : FloatC 21 s zs k (spV s zs k) (spC s zs k) := by
  cases h : shown s zs
  · exact specSp_none s zs hz k h
  · obtain ⟨t, rfl⟩ : ∃ t : Nat, s = t := ⟨s.toNat, by rcases side_yes s (shown_fin s zs h).1 with rfl | rfl | rfl | rfl <;> rfl⟩
    cases hk : spOk (t : Int) k
    · exact specSp_out t zs hz k h hk
    · have h0 := hk
      unfold spOk at h0
      simp only [Bool.and_eq_true, decide_eq_true_eq] at h0
      obtain ⟨q, rfl⟩ : ∃ q : Nat, k = q := ⟨k.toNat, by omega⟩
      exact specSp_yes t zs hz q h hk

end Go.Proofs.YtclflnpbiiimiaaDoor
