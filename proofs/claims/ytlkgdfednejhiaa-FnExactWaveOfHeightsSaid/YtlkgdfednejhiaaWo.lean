/- WaveOfHeights: program and model answer the wave of the phases of the heights, or zeros and the code of what is no height map. Condition: a list that a law lets in. -/
import Derived.Test.YtlkgdfednejhiaaHrr
import Derived.Test.YtlkgdfednejhiaaHk
import Derived.Test.YtlkgdfednejhiaaS3
import Derived.Test.YtlkgdfednejhiaaRes
import Derived.Deep.QuietTactic
import Derived.BigQuiet
namespace Go.Proofs.Ytlkgdfednejhiaa
open Go Go.RowKit

/-- what is asked of program and model: a wave and a code -/
def Waves (f : FuncId) (n : Int) (L : List Int) (m : Int) (zs : Array Value) (c : Int) : Prop :=
  L.length ≤ 1048576 → ∀ v w, Own 0 v L w → Calls Try.prog f #[.int .i64 n, v] w fun e w' => e = .returned (.tuple #[.agg (pic m zs), .int .i64 c]) ∧ Below w.heap.size w w'

/-- the cell at a place -/
def cellWo (L : List Int) (i : Nat) : Nat × Nat := (tre (L.getD i 0 % 64).toNat, tim (L.getD i 0 % 64).toNat)
theorem cellWo_fin (L : List Int) (i : Nat) : (fin (cellWo L i).1 && fin (cellWo L i).2) = true := by
  unfold cellWo
  exact tab_fin2 _ (by omega)

set_option maxRecDepth 100000 in
set_option maxHeartbeats 800000 in
theorem specWo_no (n : Int) (L : List Int) (h0 : isMap n L = false) : Waves 38 n L 0 zc 1 := by
  intro hn v w hO
  obtain ⟨a, cap, rfl, hC⟩ := hO.came
  have hz37 := (zero_of_info info37').1
  have HS37 := Lib.hid (zero_of_info info37').2
  have HZ37 : Hid ((pic 0 zc).size = 65) := Lib.hid (pic_size 0 zc zc_size)
  have HZ1 := Lib.hid (zc_one 0)
  have hne := pic_ne
  generalize pic 0 zc = Z at *
  have HZI : Hid ((Try.prog.info? 33).map (·.size) = some Z.size) := Lib.hid (by rw [HZ37.out]; exact HS37.out)
  have HI := Lib.hid (specIs7_any n a L.length cap L _ (hC.below ((Below.refl w.heap.size w).alloc (Nat.le_refl _) (.cells Z 33)) (Nat.le_refl _)) hn)
  rw [h0] at HI
  clear hC hO h0
  go_enter Try.func38, Try.ntmps38
  go_wp2_with fail
  refine HI.out.mono ?_
  rintro e w' ⟨rfl, rfl⟩
  go_wp2_with (refine wpList_store_row rfl 33 (.tmp 4) (.tmp 12) rfl w.heap.size Z rfl rfl 33 Z (h1_0 _ _) HZI.out rfl HZ1.out ?_)
  refine bodyPost_ret (v := .tuple #[.agg Z, .int .i64 1]) (results_row_tmp (fn := Try.f38) (p := 4) (u := 5) (ty := 33) rfl _ _ w.heap.size 33 Z (0, 0) _ rfl (setRow_heap _ _ _ _ _ _ (h1_0 _ _)) Try.underlying33 rfl HZI.out) rfl ⟨rfl, ?_⟩
  exact below_setRow ((Below.refl _ _).alloc (Nat.le_refl _) _) (Nat.le_refl _) _

set_option maxRecDepth 100000 in
set_option maxHeartbeats 2000000 in
theorem specWo_yes (s : Nat) (L : List Int) (h0 : isMap s L = true) : Waves 38 s L s (gf (cellWo L) (s * s)) 0 := by
  intro hn v w hO
  have hs := isMap_side h0
  have hlen : L.length = s * s := by have := isMap_len h0; rw [← Int.natCast_mul] at this; omega
  obtain ⟨b, cap, rfl, _, hb⟩ := hO.form (isMap_pos h0)
  obtain ⟨a', cap', e', hC⟩ := hO.came
  cases e'
  have hz37 := (zero_of_info info37').1
  have HS37 := Lib.hid (zero_of_info info37').2
  have HZ37 : Hid ((pic 0 zc).size = 65) := Lib.hid (pic_size 0 zc zc_size)
  have HE37 : Hid ((pic s zc).size = 65) := Lib.hid (pic_size s zc zc_size)
  have HE1 : Hid ((pic s zc).all (·.oneCell') = true) := Lib.hid (zc_one s)
  have HEI : Hid ((Try.prog.info? 33).map (·.size) = some (pic s zc).size) := Lib.hid (by rw [HE37.out]; exact HS37.out)
  have HZE : Hid ((pic 0 zc).size = (pic s zc).size) := Lib.hid (by rw [HZ37.out, HE37.out])
  have HE := Lib.hid (empty_any s)
  have hne := pic_ne
  have hN64 : L.length ≤ 64 := by rw [hlen]; exact sq_le s hs
  have HCell : Hid (∀ i, i < L.length → w.cell? ⟨b, i, none⟩ = some (.int .i64 (L.getD i 0))) := Lib.hid (fun i hi => hO.cell i hi)
  have HB : Hid (b < w.heap.size) := Lib.hid hb
  have HF : Hid (∀ i, cellWo L i = (tre (L.getD i 0 % 64).toNat, tim (L.getD i 0 % 64).toNat)) := Lib.hid (fun _ => rfl)
  rw [← hlen]
  generalize cellWo L = F at *
  obtain ⟨E, hE⟩ : ∃ E, E = pic s zc := ⟨_, rfl⟩
  rw [← hE] at HE37 HE1 HEI HZE HE
  have HEE := Lib.hid hE
  generalize pic 0 zc = Z at *
  have HI := Lib.hid (specIs7_any s (some ⟨b, 0, none⟩) L.length cap L _ (hC.below ((Below.refl w.heap.size w).alloc (Nat.le_refl _) (.cells Z 33)) (Nat.le_refl _)) hn)
  rw [h0] at HI
  clear hE hC hO h0 hlen hs hn
  generalize hNN : L.length = N at *
  clear hNN
  go_enter Try.func38, Try.ntmps38
  go_wp2_with fail
  refine HI.out.mono ?_
  rintro e w' ⟨rfl, rfl⟩
  go_wp2_with fail
  refine (HE.out _).mono ?_
  rintro e w' ⟨rfl, rfl⟩
  go_wp2_with (refine wpList_store_row rfl 33 (.tmp 6) (.tmp 14) rfl (w.heap.size + 1 + 1) E rfl rfl 33 Z (h3_2 w (.cells Z 33) (.cells E 33) (.cells Z 33)) HEI.out HZE.out HE1.out ?_)
  have GG : Hid (((((w.alloc (.cells Z 33)).alloc (.cells E 33)).alloc (.cells Z 33)).setRow (w.heap.size + 1 + 1) E).heap[w.heap.size + 1 + 1]? = some (.cells E 33 (0, 0))) := Lib.hid (setRow_heap _ _ _ _ _ _ (h3_2 w (.cells Z 33) (.cells E 33) (.cells Z 33)))
  have GZ : Hid (((((w.alloc (.cells Z 33)).alloc (.cells E 33)).alloc (.cells Z 33)).setRow (w.heap.size + 1 + 1) E).heap[w.heap.size]? = some (.cells Z 33 (0, 0))) := Lib.hid (by rw [heap_setRow_other _ _ _ _ (by omega)]; exact h3_0 w (.cells Z 33) (.cells E 33) (.cells Z 33))
  have BB : Hid (Below w.heap.size w ((((w.alloc (.cells Z 33)).alloc (.cells E 33)).alloc (.cells Z 33)).setRow (w.heap.size + 1 + 1) E)) := Lib.hid (below_setRow ((((Below.refl _ _).alloc (Nat.le_refl _) _).alloc (by rw [size_al]; omega) _).alloc (by rw [size_al, size_al]; omega) _) (by omega) _)
  generalize (((w.alloc (.cells Z 33)).alloc (.cells E 33)).alloc (.cells Z 33)).setRow (w.heap.size + 1 + 1) E = V at *
  clear HE HE37 HE1 HEI HZE hz37 hne
  go_loopw [7] (fun i wr => ∃ (k : Nat) (D : Array Value), k ≤ N ∧ i = .int .i64 k ∧ Hid (D = pic s (gf F k)) ∧ Hid (wr.heap[w.heap.size + 1 + 1]? = some (.cells D 33 (0, 0))) ∧ Hid (wr.heap[w.heap.size]? = some (.cells Z 33 (0, 0))) ∧ Hid (Below w.heap.size w wr)) (fun i _ => N - (intOf i).toNat)
  case atStart => exact ⟨0, E, by omega, rfl, Lib.hid (by rw [HEE.out, gf_zero]), GG, GZ, BB⟩
  case round =>
    obtain ⟨k, D, hk, rfl, HD, G, Z0, B⟩ := hrel
    by_cases hlt : k < N
    · have hdk : decide ((k : Int) < (N : Int)) = true := by simp; omega
      have hk64 : k < 64 := by omega
      have hold : wr.cell? ⟨w.heap.size + 1 + 1, 1 + k, none⟩ = some (.complex .f32 0 0) := by
        rw [cell_of_row _ _ _ _ _ _ G.out, HD.out]; exact gf_old s F k hk64
      have hfree : wr.frozen? ⟨w.heap.size + 1 + 1, 1 + k, none⟩ = false := frozen_of_row _ _ _ _ _ G.out
      have HSET : Hid (D.setIfInBounds (1 + k) (.complex .f32 (F k).1 (F k).2) = pic s (gf F (k + 1))) := Lib.hid (by rw [HD.out]; exact gf_set s F _ hk64)
      have hF1 : (F k).1 = tre (L.getD k 0 % 64).toNat := by rw [HF.out]
      have hF2 : (F k).2 = tim (L.getD k 0 % 64).toNat := by rw [HF.out]
      have c1 := (B.out.cell (p := ⟨b, k, none⟩) HB.out).trans (HCell.out k hlt)
      have HPH := Lib.hid (spec_phase (L.getD k 0))
      have hq : (k : Int) < 64 := by omega
      rw [hF1, hF2] at HSET
      clear hF1 hF2
      generalize (L.getD k 0 % 64).toNat = j at *
      generalize L.getD k 0 = x at *
      generalize tre j = X at *
      generalize tim j = Y at *
      go_wp2_with fail
      refine (HPH.out _).mono ?_
      rintro e w' ⟨rfl, hw'⟩
      rw [← hw']
      clear hw' w' HPH
      go_wp2_with fail
      refine ⟨⟨k + 1, D.setIfInBounds (1 + k) (.complex .f32 X Y), by omega, by go_num, HSET, Lib.hid (heap_setCell_same _ _ _ _ _ _ G.out), Lib.hid (by rw [heap_setCell_other _ _ _ _ (by show w.heap.size ≠ w.heap.size + 1 + 1; omega)]; exact Z0.out), Lib.hid (B.out.setCell (by show w.heap.size ≤ w.heap.size + 1 + 1; omega) _)⟩, by simp [intOf]; omega⟩
    · obtain rfl : k = N := by omega
      have HC1 : Hid (D.all (·.oneCell') = true) := Lib.hid (by rw [HD.out]; exact gf_wav_one _ _ _)
      have HCI : Hid ((Try.prog.info? 33).map (·.size) = some D.size) := Lib.hid (by rw [HD.out, pic_size _ _ (gf_size _ _)]; exact HS37.out)
      have HZC : Hid (Z.size = D.size) := Lib.hid (by rw [HD.out, pic_size _ _ (gf_size _ _)]; exact HZ37.out)
      go_wp2_with (first | (refine wpList_load_row rfl 33 (.tmp 6) rfl (w.heap.size + 1 + 1) rfl 33 D (0, 0) _ G.out Try.underlying33 rfl HCI.out ?_) | (refine wpList_store_row rfl 33 (.tmp 4) (.tmp 29) rfl w.heap.size D rfl rfl 33 Z Z0.out HCI.out HZC.out HC1.out ?_))
      refine bodyPost_ret (v := .tuple #[.agg D, .int .i64 0]) (results_row_tmp (fn := Try.f38) (p := 4) (u := 5) (ty := 33) rfl _ _ w.heap.size 33 D (0, 0) _ rfl (setRow_heap _ _ _ _ _ _ Z0.out) Try.underlying33 rfl HCI.out) rfl ⟨by rw [HD.out], ?_⟩
      exact below_setRow B.out (Nat.le_refl _) _

end Go.Proofs.Ytlkgdfednejhiaa
