/- The draws of masks leave some waves, and all memory but the source as it was. Condition: a source, a side. -/
import Derived.Test.YtjmfffgddmnkmabDCe
import Derived.Test.YtjmfffgddmnkmabLay
import Derived.Deep.CutBlock
import Derived.Deep.DeepCutAuto
import Derived.Deep.RegionHeld3
namespace Go.Proofs.Ytjmfffgddmnkmab
open Go Go.RowKit

set_option maxRecDepth 100000 in
set_option maxHeartbeats 1000000 in
theorem mask_any (p : Nat) (n : Int) (hn : n = 1 ∨ n = 2 ∨ n = 4 ∨ n = 8) (w : World) (hs : Src p w) : Calls Try.prog 85 #[.pointer (some ⟨p, 0, none⟩), .int .i64 n] w (WavD p n w) := by
  have hz37 := (zero_of_info info37').1
  have HS37 := Lib.hid (zero_of_info info37').2
  have HZ37 : Hid ((pic 0 zc).size = 65) := Lib.hid (pic_size 0 zc zc_size)
  have HE37 : Hid ((pic n zc).size = 65) := Lib.hid (pic_size n zc zc_size)
  have HE1 : Hid ((pic n zc).all (·.oneCell') = true) := Lib.hid (zc_one n)
  have HEI : Hid ((Try.prog.info? 30).map (·.size) = some (pic n zc).size) := Lib.hid (by rw [HE37.out]; exact HS37.out)
  have HZE : Hid ((pic 0 zc).size = (pic n zc).size) := Lib.hid (by rw [HZ37.out, HE37.out])
  have HE := Lib.hid (empty_any n)
  obtain ⟨E, hE⟩ : ∃ E, E = pic n zc := ⟨_, rfl⟩
  rw [← hE] at HE37 HE1 HEI HZE HE
  have HEE := Lib.hid hE
  have HZW := Lib.hid (wav_zc 0)
  generalize pic 0 zc = Z at *
  clear hE
  obtain ⟨N, hN, hN64⟩ : ∃ N : Nat, IntKind.i64.wrap (n * n) = (N : Int) ∧ N ≤ 64 := by
    rcases hn with rfl | rfl | rfl | rfl
    · exact ⟨1, rfl, by omega⟩
    · exact ⟨4, rfl, by omega⟩
    · exact ⟨16, rfl, by omega⟩
    · exact ⟨64, rfl, by omega⟩
  have HSS := Lib.hid hs
  clear hs
  go_enter Try.func85, Try.ntmps85
  go_wp2_with (go_at_call 106; fail)
  refine (HE.out _).mono ?_
  rintro e w1 ⟨rfl, hw1⟩
  have S1 : Hid (Src p w1) := Lib.hid (by rw [hw1]; exact (HSS.out.alloc _).alloc _)
  have O1 : Hid (Own p w w1) := Lib.hid (by rw [hw1]; exact ((Own.refl p w).alloc _).alloc _)
  have G0 : Hid (w1.heap[w.heap.size]? = some (.cells Z 30 (0, 0))) := Lib.hid (by rw [hw1]; exact h2_0 _ _ _)
  have hp := HSS.out.lt
  clear hw1 HE
  have P0 := Lib.hid (show w1.heap.size ≠ p by have := O1.out.size; omega)
  have hlt0 : w.heap.size < w1.heap.size := (Array.getElem?_eq_some_iff.1 G0.out).1
  go_wp2_with (refine wpList_store_row rfl 30 (.tmp 5) (.tmp 8) rfl w1.heap.size E rfl rfl 30 Z (h1_0 _ _) HEI.out HZE.out HE1.out ?_; rw [World.setRow_alloc_new])
  have L0 : Hid (Lies p n w w1.heap.size (w1.alloc (.cells E 30))) := Lib.hid ⟨E, h1_0 _ _, by rw [HEE.out]; exact wav_zc n, S1.out.alloc _, O1.out.alloc _⟩
  have P1 := Lib.hid (show w.heap.size ≤ w1.heap.size by omega)
  have hg0 : Hid (∀ wr, Own p w1 wr → wr.heap[w.heap.size]? = some (.cells Z 30 (0, 0))) := Lib.hid fun wr o => by
    rw [o.block _ hlt0 (by omega)]; exact G0.out
  have A0 := Lib.hid ((Own.refl p w1).alloc (.cells E 30))
  generalize w1.alloc (.cells E 30) = w2 at *
  generalize hgg : w1.heap.size = g at *
  go_loopw [6] (fun i wr => ∃ k : Nat, k ≤ N ∧ i = .int .i64 k ∧ Hid (Lies p n w g wr) ∧ Hid (Own p w1 wr)) (fun i _ => N - (intOf i).toNat)
  case atStart => exact ⟨0, by omega, rfl, L0, A0⟩
  case round =>
    obtain ⟨k, hk, rfl, L, A⟩ := hrel
    by_cases hlt : k < N
    · go_wp2_with fail
      refine (next_any p 2 _ (L.out.elim fun _ h => h.2.2.1)).mono ?_
      rintro e9 w9 ⟨q, rfl, q0, q1, s9, o9⟩
      replace L := Lib.hid (Lies.own L.out P0.out s9 o9)
      replace A := Lib.hid (A.out.trans o9)
      clear s9 o9
      obtain ⟨cx, cy, hcell⟩ := L.out.cell k (by omega)
      have hfree := L.out.free k
      go_wp2_with fail
      exact ⟨⟨k + 1, by omega, by go_num, Lib.hid (L.out.set P0.out P1.out k _ _), Lib.hid (A.out.setNew g _ _ (by omega))⟩, by show N - ((k : Int) + 1).toNat < N - (k : Int).toNat; omega⟩
    · obtain ⟨D, hgD, hd, sD, oD⟩ := L.out
      have GD := Lib.hid hgD
      have GZ := Lib.hid (hg0.out _ A.out)
      have HD1 := Lib.hid (wav_one hd)
      have HDI : Hid ((Try.prog.info? 30).map (·.size) = some D.size) := Lib.hid (by rw [hd.1]; exact HS37.out)
      have HZD : Hid (Z.size = D.size) := Lib.hid (by rw [hd.1]; exact HZ37.out)
      have SD := Lib.hid sD
      have OD := Lib.hid oD
      have HD := Lib.hid hd
      clear hgD hd sD oD hz37
      go_wp2_with (first | (refine wpList_load_row rfl 30 (.tmp 5) rfl g rfl 30 D (0, 0) _ GD.out Try.underlying30 rfl HDI.out ?_) | (refine wpList_store_row rfl 30 (.tmp 4) (.tmp 23) rfl w.heap.size D rfl rfl 30 Z GZ.out HDI.out HZD.out HD1.out ?_))
      refine bodyPost_ret (v := .agg D) (results_cell_row (fn := Try.f85) (p := 4) (ty := 30) rfl _ _ w.heap.size 30 D (0, 0) _ rfl (setRow_heap _ _ _ _ _ _ GZ.out) Try.underlying30 rfl HDI.out) rfl ⟨D, rfl, HD.out, ?_, ?_⟩
      · exact SD.out.setRow GZ.out (by omega) HZW.out _
      · exact OD.out.setRow _ _ (Nat.le_refl _)

set_option maxRecDepth 100000 in
set_option maxHeartbeats 1000000 in
theorem spoilM_any (p : Nat) (n : Int) (D : Array Value) (hD : Wav n D) (w : World) (hs : Src p w) : Calls Try.prog 84 #[.pointer (some ⟨p, 0, none⟩), .agg D] w (WavD p n w) := by
  have hz37 := (zero_of_info info37').1
  have HS37 := Lib.hid (zero_of_info info37').2
  have HZ37 : Hid ((pic 0 zc).size = 65) := Lib.hid (pic_size 0 zc zc_size)
  have HZ1 := Lib.hid (zc_one 0)
  have HZW := Lib.hid (wav_zc 0)
  have hne := pic_ne
  generalize pic 0 zc = Z at *
  have HZI : Hid ((Try.prog.info? 30).map (·.size) = some Z.size) := Lib.hid (by rw [HZ37.out]; exact HS37.out)
  have HSS := Lib.hid hs
  have hp := HSS.out.lt
  have P0 : w.heap.size ≠ p := by omega
  have L0 : Hid (Lies p n w w.heap.size ((w.alloc (.cells D 30)).alloc (.cells Z 30))) := Lib.hid ⟨D, h2_0 _ _ _, hD, (HSS.out.alloc _).alloc _, ((Own.refl p w).alloc _).alloc _⟩
  have Z0 : Hid (((w.alloc (.cells D 30)).alloc (.cells Z 30)).heap[w.heap.size + 1]? = some (.cells Z 30 (0, 0))) := Lib.hid (h2_1 _ _ _)
  have HEND : Hid (∀ (wr : World), Lies p n w w.heap.size wr → wr.heap[w.heap.size + 1]? = some (.cells Z 30 (0, 0)) → ∃ C, wr.heap[w.heap.size]? = some (.cells C 30 (0, 0)) ∧ Wav n C ∧ Src p wr ∧ Own p w wr) := Lib.hid fun wr h _ => h
  clear hs hD
  go_enter Try.func84, Try.ntmps84
  go_upto_region 1 with fail
  generalize (w.alloc (.cells D 30)).alloc (.cells Z 30) = v at *
  go_wp2_with fail
  refine (next_any p 20 _ (L0.out.elim fun _ h => h.2.2.1)).mono ?_
  rintro e w1 ⟨r, rfl, r0, r1, s1, o1⟩
  have L1 := Lib.hid (Lies.own L0.out P0 s1 o1)
  have Z1 : Hid (w1.heap[w.heap.size + 1]? = some (.cells Z 30 (0, 0))) := Lib.hid (by rw [o1.block _ (Array.getElem?_eq_some_iff.1 Z0.out).1 (by omega)]; exact Z0.out)
  clear s1 o1 L0 Z0
  go_upto_if 7 with fail
  go_cut [] (fun wx => Hid (Lies p n w w.heap.size wx) ∧ Hid (wx.heap[w.heap.size + 1]? = some (.cells Z 30 (0, 0))))
  case first =>
    by_cases hr : r = 0
    · subst hr
      go_wp2_with fail
      refine (next_any p 64 _ (L1.out.elim fun _ h => h.2.2.1)).mono ?_
      rintro e w2 ⟨i, rfl, i0, i1, s2, o2⟩
      have L2 := Lib.hid (Lies.own L1.out P0 s2 o2)
      have Z2 : Hid (w2.heap[w.heap.size + 1]? = some (.cells Z 30 (0, 0))) := Lib.hid (by rw [o2.block _ (Array.getElem?_eq_some_iff.1 Z1.out).1 (by omega)]; exact Z1.out)
      clear s2 o2 L1 Z1
      obtain ⟨k, rfl⟩ : ∃ k : Nat, i = k := ⟨i.toNat, by omega⟩
      have hk : k < 64 := by omega
      go_wp2_with fail
      refine (pick_lit p [2, -1, 1] w2 (L2.out.elim fun _ h => h.2.2.1) (by simp) (by simp)).mono ?_
      rintro e w3 ⟨a, ha, rfl, s3, o3⟩
      have L3 := Lib.hid (Lies.own L2.out P0 s3 o3)
      have Z3 : Hid (w3.heap[w.heap.size + 1]? = some (.cells Z 30 (0, 0))) := Lib.hid (by rw [o3.block _ (Array.getElem?_eq_some_iff.1 Z2.out).1 (by omega)]; exact Z2.out)
      clear s3 o3 L2 Z2 ha
      go_wp2_with fail
      refine (next_any p 2 _ (L3.out.elim fun _ h => h.2.2.1)).mono ?_
      rintro e w4 ⟨q, rfl, q0, q1, s4, o4⟩
      have L4 := Lib.hid (Lies.own L3.out P0 s4 o4)
      have Z4 : Hid (w4.heap[w.heap.size + 1]? = some (.cells Z 30 (0, 0))) := Lib.hid (by rw [o4.block _ (Array.getElem?_eq_some_iff.1 Z3.out).1 (by omega)]; exact Z3.out)
      clear s4 o4 L3 Z3
      obtain ⟨cx, cy, hcell⟩ := L4.out.cell k hk
      have hfree := L4.out.free k
      go_wp2_with fail
      go_meet
      exact ⟨Lib.hid (L4.out.set P0 (Nat.le_refl _) k _ _), Lib.hid (by rw [heap_setCell_other _ _ _ _ (by show w.heap.size + 1 ≠ w.heap.size; omega)]; exact Z4.out)⟩
    · have hr' : (r == 0) = false := by simp [hr]
      go_wp2_with fail
      go_meet
      exact ⟨L1, Z1⟩
  case rest =>
    obtain ⟨L5, Z5⟩ := hcut
    obtain ⟨C, hgC, hc, sC, oC⟩ := L5.out
    have GC := Lib.hid hgC
    have HC1 := Lib.hid (wav_one hc)
    have HCI : Hid ((Try.prog.info? 30).map (·.size) = some C.size) := Lib.hid (by rw [hc.1]; exact HS37.out)
    have HZC : Hid (Z.size = C.size) := Lib.hid (by rw [hc.1]; exact HZ37.out)
    have SC := Lib.hid sC
    have OC := Lib.hid oC
    have HC := Lib.hid hc
    clear hgC hc sC oC hz37 L1 Z1 L5 HEND
    go_wp2_with (first | (refine wpList_load_row rfl 30 (.tmp 3) rfl w.heap.size rfl 30 C (0, 0) _ GC.out Try.underlying30 rfl HCI.out ?_) | (refine wpList_store_row rfl 30 (.tmp 4) (.tmp 20) rfl (w.heap.size + 1) C rfl rfl 30 Z Z5.out HCI.out HZC.out HC1.out ?_))
    refine bodyPost_ret (v := .agg C) (results_cell_row (fn := Try.f84) (p := 4) (ty := 30) rfl _ _ (w.heap.size + 1) 30 C (0, 0) _ rfl (setRow_heap _ _ _ _ _ _ Z5.out) Try.underlying30 rfl HCI.out) rfl ⟨C, rfl, HC.out, ?_, ?_⟩
    · exact SC.out.setRow Z5.out (by omega) HZW.out _
    · exact OC.out.setRow _ _ (by omega)

set_option maxRecDepth 100000 in
set_option maxHeartbeats 1000000 in
theorem dDrawComplementOf_any (ad : Option Addr) (len cap : Nat) (w : World) (hc : Code ad len w) :
    Calls Try.prog 28 #[.slice ad len cap] w (fun e w' => ∃ s D, e = .returned (.agg D) ∧ Wav s D ∧ Below w.heap.size w w') := by
  have hz37 := (zero_of_info info37').1
  have HS37 := Lib.hid (zero_of_info info37').2
  have HZ37 : Hid ((pic 0 zc).size = 65) := Lib.hid (pic_size 0 zc zc_size)
  have HZ1 := Lib.hid (zc_one 0)
  have HZW := Lib.hid (wav_zc 0)
  have hne := pic_ne
  generalize pic 0 zc = Z at *
  have HZI : Hid ((Try.prog.info? 30).map (·.size) = some Z.size) := Lib.hid (by rw [HZ37.out]; exact HS37.out)
  have HC := Lib.hid hc
  clear hc
  go_enter Try.func28, Try.ntmps28
  go_wp2_with fail
  refine (from_any ad len cap _ (HC.out.alloc _)).mono ?_
  rintro e w1 ⟨p, rfl, hp, hp1, s1, b1⟩
  rw [size_al] at hp
  have G1 := Lib.hid (show w1.heap[w.heap.size]? = some (.cells Z 30 (0, 0)) by rw [b1.block _ (by rw [size_al]; omega)]; exact h1_0 _ _)
  have S1 := Lib.hid s1
  have B1 := Lib.hid (((Below.refl w.heap.size w).alloc (Nat.le_refl _) (.cells Z 30)).trans (b1.mono (by rw [size_al]; omega)))
  clear s1 b1
  go_wp2_with fail
  refine (drawSide_any p _ S1.out).mono ?_
  rintro e w2 ⟨n, rfl, hn, s2, o2⟩
  go_wp2_with fail
  refine (mask_any p n hn _ s2).mono ?_
  rintro e w3 ⟨M, rfl, hM, s3, o3⟩
  go_wp2_with fail
  refine (spoilM_any p n M hM _ s3).mono ?_
  rintro e w4 ⟨D, rfl, hd, s4, o4⟩
  have o := (o2.trans o3).trans o4
  have hl : w.heap.size < w1.heap.size := (Array.getElem?_eq_some_iff.1 G1.out).1
  have G2 := Lib.hid (show w4.heap[w.heap.size]? = some (.cells Z 30 (0, 0)) by rw [o.block _ hl (by omega)]; exact G1.out)
  have B2 := Lib.hid (o.after B1.out (by omega) (Nat.le_refl _))
  have HD1 := Lib.hid (wav_one hd)
  have HDI : Hid ((Try.prog.info? 30).map (·.size) = some D.size) := Lib.hid (by rw [hd.1]; exact HS37.out)
  have HZD : Hid (Z.size = D.size) := Lib.hid (by rw [hd.1]; exact HZ37.out)
  have HD := Lib.hid hd
  clear s2 o2 s3 o3 s4 o4 o hd hM hz37 S1 G1 B1
  go_wp2_with (refine wpList_store_row rfl 30 (.tmp 2) (.tmp 11) rfl w.heap.size D rfl rfl 30 Z G2.out HDI.out HZD.out HD1.out ?_)
  refine bodyPost_ret (v := .agg D) (results_cell_row (fn := Try.f28) (p := 2) (ty := 30) rfl _ _ w.heap.size 30 D (0, 0) _ rfl (setRow_heap _ _ _ _ _ _ G2.out) Try.underlying30 rfl HDI.out) rfl ⟨n, D, rfl, HD.out, ?_⟩
  exact below_setRow B2.out (Nat.le_refl _) _

set_option maxRecDepth 100000 in
set_option maxHeartbeats 1000000 in
theorem dDrawOpenCells_any (ad : Option Addr) (len cap : Nat) (w : World) (hc : Code ad len w) :
    Calls Try.prog 30 #[.slice ad len cap] w (fun e w' => ∃ s D, e = .returned (.agg D) ∧ Wav s D ∧ Below w.heap.size w w') := by
  have hz37 := (zero_of_info info37').1
  have HS37 := Lib.hid (zero_of_info info37').2
  have HZ37 : Hid ((pic 0 zc).size = 65) := Lib.hid (pic_size 0 zc zc_size)
  have HZ1 := Lib.hid (zc_one 0)
  have HZW := Lib.hid (wav_zc 0)
  have hne := pic_ne
  generalize pic 0 zc = Z at *
  have HZI : Hid ((Try.prog.info? 30).map (·.size) = some Z.size) := Lib.hid (by rw [HZ37.out]; exact HS37.out)
  have HC := Lib.hid hc
  clear hc
  go_enter Try.func30, Try.ntmps30
  go_wp2_with fail
  refine (from_any ad len cap _ (HC.out.alloc _)).mono ?_
  rintro e w1 ⟨p, rfl, hp, hp1, s1, b1⟩
  rw [size_al] at hp
  have G1 := Lib.hid (show w1.heap[w.heap.size]? = some (.cells Z 30 (0, 0)) by rw [b1.block _ (by rw [size_al]; omega)]; exact h1_0 _ _)
  have S1 := Lib.hid s1
  have B1 := Lib.hid (((Below.refl w.heap.size w).alloc (Nat.le_refl _) (.cells Z 30)).trans (b1.mono (by rw [size_al]; omega)))
  clear s1 b1
  go_wp2_with fail
  refine (drawSide_any p _ S1.out).mono ?_
  rintro e w2 ⟨n, rfl, hn, s2, o2⟩
  go_wp2_with fail
  refine (mask_any p n hn _ s2).mono ?_
  rintro e w3 ⟨M, rfl, hM, s3, o3⟩
  go_wp2_with fail
  refine (spoilM_any p n M hM _ s3).mono ?_
  rintro e w4 ⟨D, rfl, hd, s4, o4⟩
  have o := (o2.trans o3).trans o4
  have hl : w.heap.size < w1.heap.size := (Array.getElem?_eq_some_iff.1 G1.out).1
  have G2 := Lib.hid (show w4.heap[w.heap.size]? = some (.cells Z 30 (0, 0)) by rw [o.block _ hl (by omega)]; exact G1.out)
  have B2 := Lib.hid (o.after B1.out (by omega) (Nat.le_refl _))
  have HD1 := Lib.hid (wav_one hd)
  have HDI : Hid ((Try.prog.info? 30).map (·.size) = some D.size) := Lib.hid (by rw [hd.1]; exact HS37.out)
  have HZD : Hid (Z.size = D.size) := Lib.hid (by rw [hd.1]; exact HZ37.out)
  have HD := Lib.hid hd
  clear s2 o2 s3 o3 s4 o4 o hd hM hz37 S1 G1 B1
  go_wp2_with (refine wpList_store_row rfl 30 (.tmp 2) (.tmp 11) rfl w.heap.size D rfl rfl 30 Z G2.out HDI.out HZD.out HD1.out ?_)
  refine bodyPost_ret (v := .agg D) (results_cell_row (fn := Try.f30) (p := 2) (ty := 30) rfl _ _ w.heap.size 30 D (0, 0) _ rfl (setRow_heap _ _ _ _ _ _ G2.out) Try.underlying30 rfl HDI.out) rfl ⟨n, D, rfl, HD.out, ?_⟩
  exact below_setRow B2.out (Nat.le_refl _) _

end Go.Proofs.Ytjmfffgddmnkmab
