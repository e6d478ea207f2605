/- The model's wave of a code: the wave and the code. Condition: none. What is rounded is finite where it is not greater than the greatest number. Condition: none. -/
import Derived.Test.YtclflnpbiiimiaaDoorM14
import Derived.Test.YtclflnpbiiimiaaDoorM5
import Derived.Test.YtclflnpbiiimiaaDoorM11
namespace Go.Proofs.YtclflnpbiiimiaaDoor
open Go Go.RowKit

/-- a cell of the wave of the code k -/
def cwF (k : Nat) : Nat → Nat × Nat := fun i => (wal k i, 0)
theorem cwF_fin (k : Nat) : ∀ i, (fin (cwF k i).1 && fin (cwF k i).2) = true := fun i => by
  show (fin (sg (par (k &&& i))) && fin 0) = true
  rw [sg_fin]
  decide
def cwOk (n k : Int) : Bool := side n && (decide (0 ≤ k) && decide (k ≤ n * n - 1))
def cwS (n k : Int) : Int := if cwOk n k = true then n else 0
def cwZ (n k : Int) : Array Value := if cwOk n k = true then gf (cwF k.toNat) (n.toNat * n.toNat) else zc
def cwC (n k : Int) : Int := if cwOk n k = true then 0 else 2
theorem cw_no {n k : Int} (h : cwOk n k = false) : cwS n k = 0 ∧ cwZ n k = zc ∧ cwC n k = 2 := by
  unfold cwS cwZ cwC
  rw [h]
  exact ⟨rfl, rfl, rfl⟩
theorem cw_yes {n k : Int} (h : cwOk n k = true) : cwS n k = n ∧ cwZ n k = gf (cwF k.toNat) (n.toNat * n.toNat) ∧ cwC n k = 0 := by
  unfold cwS cwZ cwC
  rw [h]
  exact ⟨rfl, rfl, rfl⟩
theorem gf_cells2 (F : Nat → Nat × Nat) (hF : ∀ i, (fin (F i).1 && fin (F i).2) = true) (k : Nat) : Cells (gf F k) := by
  refine ⟨gf_size _ _, fun i hi => ?_⟩
  have h := hF i
  rw [Bool.and_eq_true] at h
  by_cases hk : i < k
  · exact ⟨_, _, h.1, h.2, by rw [gf_get, if_pos hi, if_pos hk]⟩
  · exact ⟨0, 0, by decide, by decide, by rw [gf_get, if_pos hi, if_neg hk]⟩
theorem zc_cells4 : Cells zc := by
  rw [← gf_zero (fun _ => (0, 0))]
  exact gf_cells2 _ (fun _ => by decide) 0
theorem cwZ_cells (n k : Int) : Cells (cwZ n k) := by
  unfold cwZ
  split
  · exact gf_cells2 _ (cwF_fin _) _
  · exact zc_cells4
theorem sq_le2 (s : Nat) (h : side (s : Int) = true) : s * s ≤ 64 := by
  rcases side_yes _ h with e | e | e | e
  · obtain rfl : s = 1 := by omega
    decide
  · obtain rfl : s = 2 := by omega
    decide
  · obtain rfl : s = 4 := by omega
    decide
  · obtain rfl : s = 8 := by omega
    decide
/-- what is asked of a function of two numbers that answers a wave and a code -/
def Wave2 (f : FuncId) (n k s : Int) (zs : Array Value) (c : Int) : Prop :=
  ∀ w, Calls Tryd.prog f #[.int .i64 n, .int .i64 k] w fun e w' => e = .returned (.tuple #[.agg (pic s zs), .int .i64 c]) ∧ Below w.heap.size w w'

set_option maxRecDepth 100000 in
set_option maxHeartbeats 800000 in
theorem specCw_side (n k : Int) (h : side n = false) : Wave2 18 n k 0 zc 2 := by
  intro w
  have hz37 := (zero_of_info info37').1
  have HI : Hid ((Tryd.prog.info? 35).map (·.size) = some (pic 0 zc).size) := Lib.hid (by rw [pic_size 0 zc zc_size]; exact (zero_of_info info37').2)
  have H1 := Lib.hid (zc_one 0)
  have hne := pic_ne
  have HSD : Hid (∀ z, Calls Tryd.prog 51 #[.int .i64 n] z fun e w' => e = .returned (.bool false) ∧ z = w') := Lib.hid (fun z => by rw [← h]; exact l01Side_any n z)
  generalize pic 0 zc = Z at *
  clear h
  go_enter Tryd.func18, Tryd.ntmps18
  go_wp2_with fail
  refine (HSD.out _).mono ?_
  rintro e w' ⟨rfl, rfl⟩
  go_wp2_with (refine wpList_store_row rfl 35 (.tmp 4) (.tmp 21) rfl w.heap.size Z rfl rfl 35 Z (h1_0 _ _) HI.out rfl H1.out ?_)
  refine bodyPost_ret (v := .tuple #[.agg Z, .int .i64 2]) (results_row_tmp (fn := Tryd.f18) (p := 4) (u := 5) (ty := 35) rfl _ _ w.heap.size 35 Z (0, 0) _ rfl (setRow_heap _ _ _ _ _ _ (h1_0 _ _)) Tryd.underlying35 rfl HI.out) rfl ⟨rfl, ?_⟩
  exact below_setRow ((Below.refl _ _).alloc (Nat.le_refl _) _) (Nat.le_refl _) _

set_option maxRecDepth 100000 in
set_option maxHeartbeats 800000 in
theorem specCw_out (s : Nat) (k : Int) (hs : side (s : Int) = true) (h : (decide (0 ≤ k) && decide (k ≤ (s : Int) * s - 1)) = false) : Wave2 18 s k 0 zc 2 := by
  intro w
  have hz37 := (zero_of_info info37').1
  have HI : Hid ((Tryd.prog.info? 35).map (·.size) = some (pic 0 zc).size) := Lib.hid (by rw [pic_size 0 zc zc_size]; exact (zero_of_info info37').2)
  have H1 := Lib.hid (zc_one 0)
  have hne := pic_ne
  have hss : s * s ≤ 64 := sq_le2 s hs
  have hsq : (s : Int) * s = ((s * s : Nat) : Int) := by rw [Int.natCast_mul]
  have e1 : IntKind.i64.wrap ((s : Int) * s) = ((s * s : Nat) : Int) := (IntWalk.i64_in _ (by omega)).trans hsq
  have e2 : IntKind.i64.wrap (((s * s : Nat) : Int) - 1) = ((s * s : Nat) : Int) - 1 := IntWalk.i64_in _ (by omega)
  rw [hsq] at h
  have HSD : Hid (∀ z, Calls Tryd.prog 51 #[.int .i64 (s : Int)] z fun e w' => e = .returned (.bool true) ∧ z = w') := Lib.hid (fun z => by rw [← hs]; exact l01Side_any _ z)
  have HIN : Hid (∀ z, Calls Tryd.prog 40 #[.int .i64 k, .int .i64 0, .int .i64 (((s * s : Nat) : Int) - 1)] z fun e w' => e = .returned (.bool false) ∧ z = w') := Lib.hid (fun z => by rw [← h]; exact l01In_of k 0 _ z)
  generalize pic 0 zc = Z at *
  clear h hs hsq hss
  generalize ((s * s : Nat) : Int) = sq at *
  go_enter Tryd.func18, Tryd.ntmps18
  go_wp2_with fail
  refine (HSD.out _).mono ?_
  rintro e w' ⟨rfl, rfl⟩
  go_wp2_with fail
  refine (HIN.out _).mono ?_
  rintro e w' ⟨rfl, rfl⟩
  go_wp2_with (refine wpList_store_row rfl 35 (.tmp 4) (.tmp 21) rfl w.heap.size Z rfl rfl 35 Z (h1_0 _ _) HI.out rfl H1.out ?_)
  refine bodyPost_ret (v := .tuple #[.agg Z, .int .i64 2]) (results_row_tmp (fn := Tryd.f18) (p := 4) (u := 5) (ty := 35) rfl _ _ w.heap.size 35 Z (0, 0) _ rfl (setRow_heap _ _ _ _ _ _ (h1_0 _ _)) Tryd.underlying35 rfl HI.out) rfl ⟨rfl, ?_⟩
  exact below_setRow ((Below.refl _ _).alloc (Nat.le_refl _) _) (Nat.le_refl _) _

set_option maxRecDepth 100000 in
set_option maxHeartbeats 1600000 in
theorem specCw_yes (s k : Nat) (hs : side (s : Int) = true) (hk : k < s * s) : Wave2 18 s k s (gf (cwF k) (s * s)) 0 := by
  intro w
  have hz37 := (zero_of_info info37').1
  have HS37 := Lib.hid (zero_of_info info37').2
  have HZ37 : Hid ((pic 0 zc).size = 65) := Lib.hid (pic_size 0 zc zc_size)
  have HE37 : Hid ((pic s zc).size = 65) := Lib.hid (pic_size s zc zc_size)
  have HE1 : Hid ((pic s zc).all (·.oneCell') = true) := Lib.hid (zc_one s)
  have HEI : Hid ((Tryd.prog.info? 35).map (·.size) = some (pic s zc).size) := Lib.hid (by rw [HE37.out]; exact HS37.out)
  have HZE : Hid ((pic 0 zc).size = (pic s zc).size) := Lib.hid (by rw [HZ37.out, HE37.out])
  have HE := Lib.hid (empty_any s)
  have hne := pic_ne
  have hss : s * s ≤ 64 := sq_le2 s hs
  have hsq : (s : Int) * s = ((s * s : Nat) : Int) := by rw [Int.natCast_mul]
  have e1 : IntKind.i64.wrap ((s : Int) * s) = ((s * s : Nat) : Int) := (IntWalk.i64_in _ (by omega)).trans hsq
  have e2 : IntKind.i64.wrap (((s * s : Nat) : Int) - 1) = ((s * s : Nat) : Int) - 1 := IntWalk.i64_in _ (by omega)
  have hin : (decide ((0 : Int) ≤ (k : Int)) && decide ((k : Int) ≤ ((s * s : Nat) : Int) - 1)) = true := by
    simp only [Bool.and_eq_true, decide_eq_true_eq]
    omega
  have HSD : Hid (∀ z, Calls Tryd.prog 51 #[.int .i64 (s : Int)] z fun e w' => e = .returned (.bool true) ∧ z = w') := Lib.hid (fun z => by rw [← hs]; exact l01Side_any _ z)
  have HIN : Hid (∀ z, Calls Tryd.prog 40 #[.int .i64 (k : Int), .int .i64 0, .int .i64 (((s * s : Nat) : Int) - 1)] z fun e w' => e = .returned (.bool true) ∧ z = w') := Lib.hid (fun z => by rw [← hin]; exact l01In_of _ 0 _ z)
  have HWL := Lib.hid (l10Walsh_any (s * s) k hss (by omega))
  have HWG : Hid (∀ i, i < s * s → (walsh (s * s) k).getD i 0 = (cwF k i).1 ∧ (cwF k i).2 = 0) := Lib.hid (fun i hi => ⟨by unfold walsh cwF; simp [List.getD_eq_getElem?_getD, hi], rfl⟩)
  have HWN : Hid ((walsh (s * s) k).length = s * s) := Lib.hid (walsh_len _ _)
  have HONE : Hid (∀ j, (pic s (gf (cwF k) j)).all (·.oneCell') = true) := Lib.hid (fun j => finW_one (gf_fin s _ (cwF_fin k) j))
  generalize walsh (s * s) k = W at *
  generalize cwF k = F at *
  obtain ⟨E, hE⟩ : ∃ E, E = pic s zc := ⟨_, rfl⟩
  rw [← hE] at HE37 HE1 HEI HZE HE
  have HEE := Lib.hid hE
  generalize pic 0 zc = Z at *
  clear hE hin hs hk hsq
  generalize s * s = N at *
  have HZI : Hid ((Tryd.prog.info? 35).map (·.size) = some Z.size) := Lib.hid (by rw [HZ37.out]; exact HS37.out)
  go_enter Tryd.func18, Tryd.ntmps18
  go_wp2_with fail
  refine (HSD.out _).mono ?_
  rintro e w' ⟨rfl, rfl⟩
  go_wp2_with fail
  refine (HIN.out _).mono ?_
  rintro e w' ⟨rfl, rfl⟩
  go_wp2_with fail
  refine (HWL.out _).mono ?_
  rintro e w1 ⟨v, rfl, o, kk⟩
  obtain ⟨ad, cp, rfl, oc⟩ := o.came
  have G0 : Hid (w1.heap[w.heap.size]? = some (.cells Z 35 (0, 0))) := Lib.hid (by rw [kk.block _ (by rw [size_al]; omega)]; exact h1_0 _ _)
  have B1 : Hid (Below w.heap.size w w1) := Lib.hid (((Below.refl _ _).alloc (Nat.le_refl _) _).trans (kk.mono (by rw [size_al]; omega)))
  have OC := Lib.hid oc
  rw [HWN.out] at OC ⊢
  clear o kk oc HWL
  go_wp2_with fail
  refine (HE.out _).mono ?_
  rintro e w2 ⟨rfl, rfl⟩
  have hsz : w.heap.size < w1.heap.size := (Array.getElem?_eq_some_iff.1 G0.out).1
  have GG : Hid ((((w1.alloc (.cells E 35)).alloc (.cells Z 35)).setRow (w1.heap.size + 1) E).heap[w1.heap.size + 1]? = some (.cells E 35 (0, 0))) := Lib.hid (setRow_heap _ _ _ _ _ _ (h2_1 _ _ _))
  have GZ : Hid ((((w1.alloc (.cells E 35)).alloc (.cells Z 35)).setRow (w1.heap.size + 1) E).heap[w.heap.size]? = some (.cells Z 35 (0, 0))) := Lib.hid (by rw [setRow_other _ _ _ _ (by omega), heap_alloc_old _ _ (by rw [size_al]; omega), heap_alloc_old _ _ hsz]; exact G0.out)
  have BX : Below w1.heap.size w1 (((w1.alloc (.cells E 35)).alloc (.cells Z 35)).setRow (w1.heap.size + 1) E) := below_setRow (((Below.refl _ _).alloc (Nat.le_refl _) _).alloc (by rw [size_al]; omega) _) (by omega) _
  have BB : Hid (Below w.heap.size w (((w1.alloc (.cells E 35)).alloc (.cells Z 35)).setRow (w1.heap.size + 1) E)) := Lib.hid (B1.out.trans (BX.mono B1.out.size))
  have HGW : Hid (w.heap.size < w1.heap.size + 1) := Lib.hid (by omega)
  have HCW : Hid (∀ u, Below w1.heap.size w1 u → ∀ i, i < N → ∃ b off, ad = some ⟨b, off, none⟩ ∧ u.cell? ⟨b, off + i, none⟩ = some (.float .f32 (F i).1)) := Lib.hid (fun u hu i hi => by
    obtain ⟨b, off, ha, hb, hc⟩ := OC.out.2 (by omega)
    exact ⟨b, off, ha, by rw [hu.cell (p := ⟨b, off + i, none⟩) hb, hc i hi, (HWG.out i hi).1]⟩)
  have BX1 := Lib.hid BX
  go_wp2_with (refine wpList_store_row rfl 35 (.tmp 7) (.tmp 28) rfl (w1.heap.size + 1) E rfl rfl 35 Z (h2_1 _ _ _) HEI.out HZE.out HE1.out ?_)
  generalize ((w1.alloc (.cells E 35)).alloc (.cells Z 35)).setRow (w1.heap.size + 1) E = V at *
  clear BX G0 B1 HE HE37 HE1 HEI HZE hz37 hne hsz OC
  go_loopw [8] (fun i wr => ∃ (q : Nat) (C : Array Value), q ≤ N ∧ i = .int .i64 q ∧ Hid (C = pic s (gf F q)) ∧ Hid (wr.heap[w1.heap.size + 1]? = some (.cells C 35 (0, 0))) ∧ Hid (wr.heap[w.heap.size]? = some (.cells Z 35 (0, 0))) ∧ Hid (Below w.heap.size w wr) ∧ Hid (Below w1.heap.size w1 wr)) (fun i _ => N - (intOf i).toNat)
  case atStart => exact ⟨0, E, by omega, rfl, Lib.hid (by rw [HEE.out, gf_zero]), GG, GZ, BB, BX1⟩
  case round =>
    clear GG GZ BB BX1
    obtain ⟨q, C, hq, rfl, HC, G, Z0, B, BX⟩ := hrel
    by_cases hlt : q < N
    · have hdy : decide ((q : Int) < (N : Int)) = true := by simp; omega
      obtain ⟨b, off, rfl, c1⟩ := HCW.out wr BX.out q hlt
      have hq64 : q < 64 := by omega
      have hold : wr.cell? ⟨w1.heap.size + 1, 1 + q, none⟩ = some (.complex .f32 0 0) := by
        rw [cell_of_row _ _ _ _ _ _ G.out, HC.out]; exact gf_old s F q hq64
      have hfree : wr.frozen? ⟨w1.heap.size + 1, 1 + q, none⟩ = false := frozen_of_row _ _ _ _ _ G.out
      have HSET : Hid (C.setIfInBounds (1 + q) (.complex .f32 (F q).1 0) = pic s (gf F (q + 1))) := Lib.hid (by
        rw [← gf_set s F q hq64, (HWG.out q hlt).2, HC.out])
      generalize (F q).1 = x at *
      go_wp2_with fail
      exact ⟨⟨q + 1, C.setIfInBounds (1 + q) (.complex .f32 x 0), by omega, by go_num, HSET, Lib.hid (heap_setCell_same _ _ _ _ _ _ G.out), Lib.hid (by rw [heap_setCell_other _ _ _ _ (by show w.heap.size ≠ w1.heap.size + 1; have := HGW.out; omega)]; exact Z0.out), Lib.hid (B.out.setCell (p := ⟨w1.heap.size + 1, 1 + q, none⟩) (by show w.heap.size ≤ w1.heap.size + 1; have := HGW.out; omega) _), Lib.hid (BX.out.setCell (p := ⟨w1.heap.size + 1, 1 + q, none⟩) (by show w1.heap.size ≤ w1.heap.size + 1; omega) _)⟩, by simp [intOf]; omega⟩
    · obtain rfl : q = N := by omega
      have HC1 : Hid (C.all (·.oneCell') = true) := Lib.hid (by rw [HC.out]; exact HONE.out _)
      have HCI : Hid ((Tryd.prog.info? 35).map (·.size) = some C.size) := Lib.hid (by rw [HC.out, pic_size _ _ (gf_size _ _)]; exact HS37.out)
      have HZC : Hid (Z.size = C.size) := Lib.hid (by rw [HC.out, pic_size _ _ (gf_size _ _)]; exact HZ37.out)
      go_wp2_with (first | (refine wpList_load_row rfl 35 (.tmp 7) rfl (w1.heap.size + 1) rfl 35 C (0, 0) _ G.out Tryd.underlying35 rfl HCI.out ?_) | (refine wpList_store_row rfl 35 (.tmp 4) (.tmp 43) rfl w.heap.size C rfl rfl 35 Z Z0.out HCI.out HZC.out HC1.out ?_))
      refine bodyPost_ret (v := .tuple #[.agg C, .int .i64 0]) (results_row_tmp (fn := Tryd.f18) (p := 4) (u := 5) (ty := 35) rfl _ _ w.heap.size 35 C (0, 0) _ rfl (setRow_heap _ _ _ _ _ _ Z0.out) Tryd.underlying35 rfl HCI.out) rfl ⟨by rw [HC.out], ?_⟩
      exact below_setRow B.out (Nat.le_refl _) _

theorem specCw (n k : Int) : Wave2 18 n k (cwS n k) (cwZ n k) (cwC n k) := by
  cases ho : cwOk n k
  · obtain ⟨e1, e2, e3⟩ := cw_no ho
    rw [e1, e2, e3]
    cases hs : side n
    · exact specCw_side n k hs
    · unfold cwOk at ho
      rw [hs, Bool.true_and] at ho
      obtain ⟨s, rfl⟩ : ∃ s : Nat, n = s := ⟨n.toNat, by rcases side_yes n hs with rfl | rfl | rfl | rfl <;> rfl⟩
      exact specCw_out s k hs ho
  · obtain ⟨e1, e2, e3⟩ := cw_yes ho
    rw [e1, e2, e3]
    unfold cwOk at ho
    simp only [Bool.and_eq_true, decide_eq_true_eq] at ho
    obtain ⟨hs, h0, h1⟩ := ho
    obtain ⟨s, rfl⟩ : ∃ s : Nat, n = s := ⟨n.toNat, by rcases side_yes n hs with rfl | rfl | rfl | rfl <;> rfl⟩
    obtain ⟨q, rfl⟩ : ∃ q : Nat, k = q := ⟨k.toNat, by omega⟩
    rw [Int.toNat_natCast, Int.toNat_natCast]
    have hsq : (s : Int) * s = ((s * s : Nat) : Int) := by rw [Int.natCast_mul]
    exact specCw_yes s q hs (by omega)

end Go.Proofs.YtclflnpbiiimiaaDoor

namespace Go.Proofs.YtclflnpbiiimiaaDoor
open Go Go.RowKit
open Ieee

theorem nf_zero (s : Bool) (p : Int) : single.nearest s 0 p = single.word s 0 := by simp [Format.nearest]
theorem nf_top (s : Bool) (n d K : Nat) (h : n ≤ K * 2 ^ d) : Toward.even.cut s n d ≤ K := by
  unfold Toward.cut
  simp only [Nat.shiftLeft_eq, Nat.one_mul]
  by_cases hd : d ≤ n.log2 + 2
  · rw [Nat.min_eq_left hd]
    have hp : 0 < 2 ^ d := Nat.two_pow_pos d
    have hdm := Nat.div_add_mod n (2 ^ d)
    have hlt := Nat.mod_lt n hp
    have hle : n / 2 ^ d ≤ K := by
      have := Nat.div_le_div_right (c := 2 ^ d) h
      rwa [Nat.mul_div_cancel _ hp] at this
    rcases Nat.lt_or_ge (n / 2 ^ d) K with h1 | h1
    · have hb : ∀ b : Bool, b.toNat ≤ 1 := fun b => by cases b <;> decide
      exact Nat.le_trans (Nat.add_le_add_left (hb _) _) h1
    · have he : n / 2 ^ d = K := Nat.le_antisymm hle h1
      have hr : n % 2 ^ d = 0 := by
        rw [he, Nat.mul_comm] at hdm
        omega
      rw [hr, he]
      have h3 : decide (2 ^ d < 2 * 0) = false := decide_eq_false (by omega)
      have h4 : (2 ^ d == 2 * 0) = false := by simp
      rw [h3, h4]
      simp
  · rw [Nat.min_eq_right (by omega)]
    have hl := lt_two_log n
    have hp2 : 2 ^ (n.log2 + 2) = 2 * 2 ^ (n.log2 + 1) := by rw [Nat.pow_succ]; omega
    generalize 2 ^ (n.log2 + 1) = Z at *
    rw [hp2, Nat.div_eq_of_lt (by omega), Nat.mod_eq_of_lt (by omega)]
    have h3 : decide (2 * Z < 2 * n) = false := decide_eq_false (by omega)
    have h4 : (2 * Z == 2 * n) = false := by simp; omega
    rw [h3, h4]
    simp
theorem nf_fin (s : Bool) (M e : Nat) (B : Int) (hB : B = 104 - e) (h : M ≤ 16777215 * 2 ^ e) : fin (single.nearest s M B) = true := by
  rcases Nat.eq_zero_or_pos M with h0 | h0
  · subst h0
    rw [nf_zero]; cases s <;> decide
  · obtain ⟨d1, d2, d3, d4⟩ := single_parts
    have hlog : M.log2 < 24 + e := (Nat.log2_lt (by omega)).2 (by
      rw [Nat.pow_add]
      have : 16777215 * 2 ^ e < 2 ^ 24 * 2 ^ e := Nat.mul_lt_mul_of_pos_right (by decide) (Nat.two_pow_pos e)
      omega)
    generalize hL : max (B + (M.log2 : Int) - 23) (-149) = L
    have hL2 : B + (M.log2 : Int) - 23 ≤ L ∧ -149 ≤ L ∧ L ≤ 104 := by omega
    have hk := kept_le s M B L hL2.1
    have hc : L = 104 → Toward.even.cut s (M <<< (B - L).toNat) (L - B).toNat ≤ 16777215 := by
      intro he
      rw [show (B - L).toNat = 0 by omega, show (L - B).toNat = e by omega, Nat.shiftLeft_zero]
      exact nf_top s M e 16777215 h
    unfold Format.nearest
    rw [if_neg (by omega)]
    simp only [d1, d2, d3, d4, hL]
    rw [fin_word]
    generalize Toward.even.cut s (M <<< (B - L).toNat) (L - B).toNat = K at *
    have hr : (L - -149).toNat * 8388608 + K < 2139095040 := by
      by_cases he : L = 104
      · have := hc he
        subst he
        rw [show ((104 : Int) - -149).toNat = 253 from rfl]
        omega
      · have h1 : (L - -149).toNat ≤ 252 := by omega
        have h2 : (L - -149).toNat * 8388608 ≤ 252 * 8388608 := Nat.mul_le_mul_right _ h1
        omega
    rw [Nat.min_eq_left (Nat.le_of_lt hr), Nat.mod_eq_of_lt (by omega)]
    exact decide_eq_true hr

end Go.Proofs.YtclflnpbiiimiaaDoor
