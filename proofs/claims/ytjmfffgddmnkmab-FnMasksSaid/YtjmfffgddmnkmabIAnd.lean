/- The program's IntersectionOf of two waves. Condition: 64 complex numbers each. -/
import Derived.Test.YtjmfffgddmnkmabIC2
namespace Go.Proofs.Ytjmfffgddmnkmab
open Go Go.RowKit

theorem and_any (a b : Bool) (w : World) : Calls Try.prog 73 #[.bool a, .bool b] w fun e w' => e = .returned (.bool (a && b)) ∧ w = w' := by
  cases a
  · go_enter Try.func73, Try.ntmps73
    go_wp2
    go_ret
    exact ⟨rfl, rfl⟩
  · go_enter Try.func73, Try.ntmps73
    go_wp2
    go_ret
    exact ⟨rfl, rfl⟩

set_option maxRecDepth 100000 in
set_option maxHeartbeats 2000000 in
theorem clos_IntersectionOf (s : Nat) (hs : side s = true) (D E : Array Value) (hD : Wav s D) (hE : Wav s E) (y x : Nat) (hy : y < s) (hx : x < s) (gj gm gk : Nat) (w : World)
    (cj : w.cell? ⟨gj, 0, none⟩ = some (.func (.func 73) #[] #[])) (hm : w.heap[gm]? = some (.cells D 30 (0, 0))) (hk : w.heap[gk]? = some (.cells E 30 (0, 0))) :
    Calls Try.prog 118 #[.int .i64 y, .int .i64 x, .pointer (some ⟨gj, 0, none⟩), .pointer (some ⟨gm, 0, none⟩), .pointer (some ⟨gk, 0, none⟩)] w fun e w' =>
      e = .returned (.complex .f32 (mark (open_ D (s * y + x) && open_ E (s * y + x))).1 (mark (open_ D (s * y + x) && open_ E (s * y + x))).2) ∧ Below w.heap.size w w' := by
  have HDI : Hid ((Try.prog.info? 30).map (·.size) = some D.size) := Lib.hid (by rw [hD.1]; exact (zero_of_info info37').2)
  have HEI : Hid ((Try.prog.info? 30).map (·.size) = some E.size) := Lib.hid (by rw [hE.1]; exact (zero_of_info info37').2)
  have K0 : KeptC gj gm gk 73 D E w w.drew := ⟨by rw [show w.drew = w.drewN 1 from rfl, World.cell?_drewN]; exact cj, hm, hk, below_drewN (Below.refl _ _) 1⟩
  have CC : Hid (∀ w', KeptC gj gm gk 73 D E w w' → w'.cell? ⟨gj, 0, none⟩ = some (.func (.func 73) #[] #[])) := Lib.hid fun w' h => h.1
  have LD : Hid (∀ w', KeptC gj gm gk 73 D E w w' → (loadVar 30 ⟨gm, 0, none⟩).run Try.prog w' = .ok (.agg D) w') := Lib.hid fun w' h => run_loadVar_row w' gm 30 30 D (0, 0) _ h.2.1 Try.underlying30 rfl HDI.out
  have LE : Hid (∀ w', KeptC gj gm gk 73 D E w w' → (loadVar 30 ⟨gk, 0, none⟩).run Try.prog w' = .ok (.agg E) w') := Lib.hid fun w' h => run_loadVar_row w' gk 30 30 E (0, 0) _ h.2.2.1 Try.underlying30 rfl HEI.out
  clear cj hm hk
  go_enter Try.func118, Try.ntmps118
  go_upto_region 1 with fail
  refine wp_region_noPanic ?_
  refine wp_region_held_drew (S := KeptC gj gm gk 73 D E w) (by kernel_rfl) K0 (fun h1 => ?_)
  clear K0
  refine wpAnyH_take (i := 0) (v := .func (.func 73) #[] #[]) rfl (by kernel_rfl) (by kernel_rfl) (by kernel_rfl) (fun _ _ _ h => h) (Or.inl ⟨by rfl, fun w' hSw => by have c0 := CC.out w' hSw; go_simp⟩) h1 ?_
  simp only [Act.put]
  refine wpAnyH_take (i := 1) rfl (by kernel_rfl) (by kernel_rfl) (by kernel_rfl) (fun _ _ _ h => h) (yieldsIf_roww rfl (.tmp 3) rfl gm rfl D LD.out) h1 ?_
  simp only [Act.put]
  refine wpAnyH_take (i := 2) (v := .int .i64 y) rfl (by kernel_rfl) (by kernel_rfl) (by kernel_rfl) (fun _ _ _ h => h) (Or.inl ⟨by rfl, fun w' hSw => by have c0 := CC.out w' hSw; go_simp⟩) h1 ?_
  simp only [Act.put]
  refine wpAnyH_take (i := 3) (v := .int .i64 x) rfl (by kernel_rfl) (by kernel_rfl) (by kernel_rfl) (fun _ _ _ h => h) (Or.inl ⟨by rfl, fun w' hSw => by have c0 := CC.out w' hSw; go_simp⟩) h1 ?_
  simp only [Act.put]
  refine wpAnyH_take (i := 5) rfl (by kernel_rfl) (by kernel_rfl) (by kernel_rfl) (fun _ _ _ h => h) (yieldsIf_roww rfl (.tmp 4) rfl gk rfl E LE.out) h1 ?_
  simp only [Act.put]
  refine wpAnyH_take (i := 6) (v := .int .i64 y) rfl (by kernel_rfl) (by kernel_rfl) (by kernel_rfl) (fun _ _ _ h => h) (Or.inl ⟨by rfl, fun w' hSw => by have c0 := CC.out w' hSw; go_simp⟩) h1 ?_
  simp only [Act.put]
  refine wpAnyH_take (i := 7) (v := .int .i64 x) rfl (by kernel_rfl) (by kernel_rfl) (by kernel_rfl) (fun _ _ _ h => h) (Or.inl ⟨by rfl, fun w' hSw => by have c0 := CC.out w' hSw; go_simp⟩) h1 ?_
  simp only [Act.put]
  generalize w.drew = v at *
  refine wpAnyH_ready (rs := [4]) (by kernel_rfl) (by simp) ?_
  refine AllReadyH.cons (o := _) rfl (fun K hK => ?_) AllReadyH.nil
  rw [if_pos (by rfl)]
  go_simp
  refine (openingAt_any s hs D hD y x hy hx _).mono ?_
  rintro e u1 ⟨rfl, bu1⟩
  refine hK.out _ _ (h1.below bu1) (fun h2 => ?_)
  clear hK K
  refine wpAnyH_ready (rs := [8]) (by kernel_rfl) (by simp) ?_
  refine AllReadyH.cons (o := _) rfl (fun K hK => ?_) AllReadyH.nil
  rw [if_pos (by rfl)]
  go_simp
  refine (openingAt_any s hs E hE y x hy hx _).mono ?_
  rintro e u2 ⟨rfl, bu2⟩
  refine hK.out _ _ (h2.below bu2) (fun h3 => ?_)
  clear hK K
  refine wpAnyH_ready (rs := [9]) (by kernel_rfl) (by simp) ?_
  refine AllReadyH.cons (o := _) rfl (fun K hK => ?_) AllReadyH.nil
  rw [if_pos (by rfl)]
  go_simp
  refine (and_any _ _ _).mono ?_
  rintro e w' ⟨rfl, rfl⟩
  refine hK.out _ _ h3 (fun h4 => ?_)
  clear hK K
  refine wpAnyH_ready (rs := [10]) (by kernel_rfl) (by simp) ?_
  refine AllReadyH.cons (o := _) rfl (fun K hK => ?_) AllReadyH.nil
  rw [if_pos (by rfl)]
  go_simp
  refine (cell_any _ _).mono ?_
  rintro e w' ⟨rfl, rfl⟩
  refine hK.out _ _ h4 (fun h5 => ?_)
  clear hK K
  refine wpAnyH_take (i := 11) (v := .complex .f32 (mark (open_ D (s * y + x) && open_ E (s * y + x))).1 (mark (open_ D (s * y + x) && open_ E (s * y + x))).2) rfl (by kernel_rfl) (by kernel_rfl) (by kernel_rfl) (fun _ _ _ h => h) (Or.inl ⟨by rfl, fun w' hSw => by go_simp⟩) h5 ?_
  refine (show wpAnyH _ _ _ _ _ _ _ (Act.put _ (some 7) _) _ from ?_)
  simp only [Act.put]
  refine wpAnyH_done (by kernel_rfl) ?_ _
  refine NoPanic.normal ?_
  go_wp2
  go_ret
  exact ⟨rfl, h5.2.2.2⟩

set_option maxRecDepth 100000 in
set_option maxHeartbeats 1000000 in
theorem combIntersectionOf_no0 (s t : Int) (D E : Array Value) (hD : Wav s D) (hE : Wav t E) (h1 : isMsk s D = false) (w : World) : Calls Try.prog 68 #[.agg D, .agg E, .func (.func 73) #[] #[]] w fun e w' => e = .returned (.tuple #[.agg (pic 0 zc), .int .i64 1]) ∧ Below w.heap.size w w' := by
  have hz37 := (zero_of_info info37').1
  have HS37 := Lib.hid (zero_of_info info37').2
  have HZ37 : Hid ((pic 0 zc).size = 65) := Lib.hid (pic_size 0 zc zc_size)
  have HZ1 := Lib.hid (zc_one 0)
  have hne := pic_ne
  generalize pic 0 zc = Z at *
  have HZI : Hid ((Try.prog.info? 30).map (·.size) = some Z.size) := Lib.hid (by rw [HZ37.out]; exact HS37.out)
  have HDI : Hid ((Try.prog.info? 30).map (·.size) = some D.size) := Lib.hid (by rw [hD.1]; exact HS37.out)
  have HEI : Hid ((Try.prog.info? 30).map (·.size) = some E.size) := Lib.hid (by rw [hE.1]; exact HS37.out)
  have HMD := Lib.hid (implIsMask_any s D hD)
  rw [h1] at HMD
  clear hD hE
  go_enter Try.func68, Try.ntmps68
  go_upto_region 1 with fail
  have D0 := Lib.hid (q4_0 w (.cells D 30) (.cells E 30) (.cells #[.func (.func 73) #[] #[]] 80) (.cells Z 30))
  have E0 := Lib.hid (q4_1 w (.cells D 30) (.cells E 30) (.cells #[.func (.func 73) #[] #[]] 80) (.cells Z 30))
  have J0 := Lib.hid (q4_2 w (.cells D 30) (.cells E 30) (.cells #[.func (.func 73) #[] #[]] 80) (.cells Z 30))
  have Z0 := Lib.hid (q4_3 w (.cells D 30) (.cells E 30) (.cells #[.func (.func 73) #[] #[]] 80) (.cells Z 30))
  have B0 := Lib.hid (below_q4 w (.cells D 30) (.cells E 30) (.cells #[.func (.func 73) #[] #[]] 80) (.cells Z 30))
  generalize (((w.alloc (.cells D 30)).alloc (.cells E 30)).alloc (.cells #[.func (.func 73) #[] #[]] 80)).alloc (.cells Z 30) = v at *
  go_wp2_with (first | (refine wpList_load_row rfl 30 (.tmp 3) rfl w.heap.size rfl 30 D (0, 0) _ D0.out Try.underlying30 rfl HDI.out ?_) | (go_at_call 19; fail))
  refine (HMD.out _).mono ?_
  rintro e w1 ⟨rfl, b1⟩
  have D1 : Hid (w1.heap[w.heap.size]? = some (.cells D 30 (0, 0))) := Lib.hid (by rw [b1.block _ (Array.getElem?_eq_some_iff.1 D0.out).1]; exact D0.out)
  have E1 : Hid (w1.heap[w.heap.size + 1]? = some (.cells E 30 (0, 0))) := Lib.hid (by rw [b1.block _ (Array.getElem?_eq_some_iff.1 E0.out).1]; exact E0.out)
  have J1 : Hid (w1.heap[w.heap.size + 1 + 1]? = some (.cells #[.func (.func 73) #[] #[]] 80 (0, 0))) := Lib.hid (by rw [b1.block _ (Array.getElem?_eq_some_iff.1 J0.out).1]; exact J0.out)
  have Z1 : Hid (w1.heap[w.heap.size + 1 + 1 + 1]? = some (.cells Z 30 (0, 0))) := Lib.hid (by rw [b1.block _ (Array.getElem?_eq_some_iff.1 Z0.out).1]; exact Z0.out)
  have B1 : Hid (Below w.heap.size w w1) := Lib.hid (B0.out.trans (b1.mono B0.out.size))
  clear b1 HMD D0 E0 J0 Z0 B0
  go_wp2_with (refine wpList_store_row rfl 30 (.tmp 6) (.tmp 16) rfl (w.heap.size + 1 + 1 + 1) Z rfl rfl 30 Z Z1.out HZI.out rfl HZ1.out ?_)
  refine bodyPost_ret (v := .tuple #[.agg Z, .int .i64 1]) (results_row_tmp (fn := Try.f68) (p := 6) (u := 7) (ty := 30) rfl _ _ (w.heap.size + 1 + 1 + 1) 30 Z (0, 0) _ rfl (setRow_heap _ _ _ _ _ _ Z1.out) Try.underlying30 rfl HZI.out) rfl ⟨rfl, ?_⟩
  exact below_setRow B1.out (by omega) _

set_option maxRecDepth 100000 in
set_option maxHeartbeats 1000000 in
theorem combIntersectionOf_no1 (s t : Int) (D E : Array Value) (hD : Wav s D) (hE : Wav t E) (h1 : isMsk s D = true) (h2 : isMsk t E = false) (w : World) : Calls Try.prog 68 #[.agg D, .agg E, .func (.func 73) #[] #[]] w fun e w' => e = .returned (.tuple #[.agg (pic 0 zc), .int .i64 1]) ∧ Below w.heap.size w w' := by
  have hz37 := (zero_of_info info37').1
  have HS37 := Lib.hid (zero_of_info info37').2
  have HZ37 : Hid ((pic 0 zc).size = 65) := Lib.hid (pic_size 0 zc zc_size)
  have HZ1 := Lib.hid (zc_one 0)
  have hne := pic_ne
  generalize pic 0 zc = Z at *
  have HZI : Hid ((Try.prog.info? 30).map (·.size) = some Z.size) := Lib.hid (by rw [HZ37.out]; exact HS37.out)
  have HDI : Hid ((Try.prog.info? 30).map (·.size) = some D.size) := Lib.hid (by rw [hD.1]; exact HS37.out)
  have HEI : Hid ((Try.prog.info? 30).map (·.size) = some E.size) := Lib.hid (by rw [hE.1]; exact HS37.out)
  have HMD := Lib.hid (implIsMask_any s D hD)
  have HME := Lib.hid (implIsMask_any t E hE)
  rw [h1] at HMD
  rw [h2] at HME
  clear hD hE
  go_enter Try.func68, Try.ntmps68
  go_upto_region 1 with fail
  have D0 := Lib.hid (q4_0 w (.cells D 30) (.cells E 30) (.cells #[.func (.func 73) #[] #[]] 80) (.cells Z 30))
  have E0 := Lib.hid (q4_1 w (.cells D 30) (.cells E 30) (.cells #[.func (.func 73) #[] #[]] 80) (.cells Z 30))
  have J0 := Lib.hid (q4_2 w (.cells D 30) (.cells E 30) (.cells #[.func (.func 73) #[] #[]] 80) (.cells Z 30))
  have Z0 := Lib.hid (q4_3 w (.cells D 30) (.cells E 30) (.cells #[.func (.func 73) #[] #[]] 80) (.cells Z 30))
  have B0 := Lib.hid (below_q4 w (.cells D 30) (.cells E 30) (.cells #[.func (.func 73) #[] #[]] 80) (.cells Z 30))
  generalize (((w.alloc (.cells D 30)).alloc (.cells E 30)).alloc (.cells #[.func (.func 73) #[] #[]] 80)).alloc (.cells Z 30) = v at *
  go_wp2_with (first | (refine wpList_load_row rfl 30 (.tmp 3) rfl w.heap.size rfl 30 D (0, 0) _ D0.out Try.underlying30 rfl HDI.out ?_) | (go_at_call 19; fail))
  refine (HMD.out _).mono ?_
  rintro e w1 ⟨rfl, b1⟩
  have D1 : Hid (w1.heap[w.heap.size]? = some (.cells D 30 (0, 0))) := Lib.hid (by rw [b1.block _ (Array.getElem?_eq_some_iff.1 D0.out).1]; exact D0.out)
  have E1 : Hid (w1.heap[w.heap.size + 1]? = some (.cells E 30 (0, 0))) := Lib.hid (by rw [b1.block _ (Array.getElem?_eq_some_iff.1 E0.out).1]; exact E0.out)
  have J1 : Hid (w1.heap[w.heap.size + 1 + 1]? = some (.cells #[.func (.func 73) #[] #[]] 80 (0, 0))) := Lib.hid (by rw [b1.block _ (Array.getElem?_eq_some_iff.1 J0.out).1]; exact J0.out)
  have Z1 : Hid (w1.heap[w.heap.size + 1 + 1 + 1]? = some (.cells Z 30 (0, 0))) := Lib.hid (by rw [b1.block _ (Array.getElem?_eq_some_iff.1 Z0.out).1]; exact Z0.out)
  have B1 : Hid (Below w.heap.size w w1) := Lib.hid (B0.out.trans (b1.mono B0.out.size))
  clear b1 HMD D0 E0 J0 Z0 B0
  go_wp2_with (first | (refine wpList_load_row_g rfl 30 (.tmp 4) rfl (w.heap.size + 1) rfl 30 E (0, 0) _ E1.out Try.underlying30 rfl HEI.out ?_) | (go_at_call 19; fail))
  refine (HME.out _).mono ?_
  rintro e w2 ⟨rfl, b2⟩
  have D2 : Hid (w2.heap[w.heap.size]? = some (.cells D 30 (0, 0))) := Lib.hid (by rw [b2.block _ (Array.getElem?_eq_some_iff.1 D1.out).1]; exact D1.out)
  have E2 : Hid (w2.heap[w.heap.size + 1]? = some (.cells E 30 (0, 0))) := Lib.hid (by rw [b2.block _ (Array.getElem?_eq_some_iff.1 E1.out).1]; exact E1.out)
  have J2 : Hid (w2.heap[w.heap.size + 1 + 1]? = some (.cells #[.func (.func 73) #[] #[]] 80 (0, 0))) := Lib.hid (by rw [b2.block _ (Array.getElem?_eq_some_iff.1 J1.out).1]; exact J1.out)
  have Z2 : Hid (w2.heap[w.heap.size + 1 + 1 + 1]? = some (.cells Z 30 (0, 0))) := Lib.hid (by rw [b2.block _ (Array.getElem?_eq_some_iff.1 Z1.out).1]; exact Z1.out)
  have B2 : Hid (Below w.heap.size w w2) := Lib.hid (B1.out.trans (b2.mono B1.out.size))
  clear b2 HME D1 E1 J1 Z1 B1
  go_wp2_with (refine wpList_store_row rfl 30 (.tmp 6) (.tmp 16) rfl (w.heap.size + 1 + 1 + 1) Z rfl rfl 30 Z Z2.out HZI.out rfl HZ1.out ?_)
  refine bodyPost_ret (v := .tuple #[.agg Z, .int .i64 1]) (results_row_tmp (fn := Try.f68) (p := 6) (u := 7) (ty := 30) rfl _ _ (w.heap.size + 1 + 1 + 1) 30 Z (0, 0) _ rfl (setRow_heap _ _ _ _ _ _ Z2.out) Try.underlying30 rfl HZI.out) rfl ⟨rfl, ?_⟩
  exact below_setRow B2.out (by omega) _

set_option maxRecDepth 100000 in
set_option maxHeartbeats 1000000 in
theorem combIntersectionOf_no2 (s t : Int) (D E : Array Value) (hD : Wav s D) (hE : Wav t E) (h1 : isMsk s D = true) (h2 : isMsk t E = true) (hne2 : s ≠ t) (w : World) : Calls Try.prog 68 #[.agg D, .agg E, .func (.func 73) #[] #[]] w fun e w' => e = .returned (.tuple #[.agg (pic 0 zc), .int .i64 2]) ∧ Below w.heap.size w w' := by
  have hz37 := (zero_of_info info37').1
  have HS37 := Lib.hid (zero_of_info info37').2
  have HZ37 : Hid ((pic 0 zc).size = 65) := Lib.hid (pic_size 0 zc zc_size)
  have HZ1 := Lib.hid (zc_one 0)
  have hne := pic_ne
  generalize pic 0 zc = Z at *
  have HZI : Hid ((Try.prog.info? 30).map (·.size) = some Z.size) := Lib.hid (by rw [HZ37.out]; exact HS37.out)
  have HDI : Hid ((Try.prog.info? 30).map (·.size) = some D.size) := Lib.hid (by rw [hD.1]; exact HS37.out)
  have HEI : Hid ((Try.prog.info? 30).map (·.size) = some E.size) := Lib.hid (by rw [hE.1]; exact HS37.out)
  have HMD := Lib.hid (implIsMask_any s D hD)
  have HME := Lib.hid (implIsMask_any t E hE)
  rw [h1] at HMD
  rw [h2] at HME
  have h0 := Lib.hid hD.2.1
  have h0' := Lib.hid hE.2.1
  have hq : (s != t) = true := by simp [hne2]
  clear hD hE
  go_enter Try.func68, Try.ntmps68
  go_upto_region 1 with fail
  have D0 := Lib.hid (q4_0 w (.cells D 30) (.cells E 30) (.cells #[.func (.func 73) #[] #[]] 80) (.cells Z 30))
  have E0 := Lib.hid (q4_1 w (.cells D 30) (.cells E 30) (.cells #[.func (.func 73) #[] #[]] 80) (.cells Z 30))
  have J0 := Lib.hid (q4_2 w (.cells D 30) (.cells E 30) (.cells #[.func (.func 73) #[] #[]] 80) (.cells Z 30))
  have Z0 := Lib.hid (q4_3 w (.cells D 30) (.cells E 30) (.cells #[.func (.func 73) #[] #[]] 80) (.cells Z 30))
  have B0 := Lib.hid (below_q4 w (.cells D 30) (.cells E 30) (.cells #[.func (.func 73) #[] #[]] 80) (.cells Z 30))
  generalize (((w.alloc (.cells D 30)).alloc (.cells E 30)).alloc (.cells #[.func (.func 73) #[] #[]] 80)).alloc (.cells Z 30) = v at *
  go_wp2_with (first | (refine wpList_load_row rfl 30 (.tmp 3) rfl w.heap.size rfl 30 D (0, 0) _ D0.out Try.underlying30 rfl HDI.out ?_) | (go_at_call 19; fail))
  refine (HMD.out _).mono ?_
  rintro e w1 ⟨rfl, b1⟩
  have D1 : Hid (w1.heap[w.heap.size]? = some (.cells D 30 (0, 0))) := Lib.hid (by rw [b1.block _ (Array.getElem?_eq_some_iff.1 D0.out).1]; exact D0.out)
  have E1 : Hid (w1.heap[w.heap.size + 1]? = some (.cells E 30 (0, 0))) := Lib.hid (by rw [b1.block _ (Array.getElem?_eq_some_iff.1 E0.out).1]; exact E0.out)
  have J1 : Hid (w1.heap[w.heap.size + 1 + 1]? = some (.cells #[.func (.func 73) #[] #[]] 80 (0, 0))) := Lib.hid (by rw [b1.block _ (Array.getElem?_eq_some_iff.1 J0.out).1]; exact J0.out)
  have Z1 : Hid (w1.heap[w.heap.size + 1 + 1 + 1]? = some (.cells Z 30 (0, 0))) := Lib.hid (by rw [b1.block _ (Array.getElem?_eq_some_iff.1 Z0.out).1]; exact Z0.out)
  have B1 : Hid (Below w.heap.size w w1) := Lib.hid (B0.out.trans (b1.mono B0.out.size))
  clear b1 HMD D0 E0 J0 Z0 B0
  go_wp2_with (first | (refine wpList_load_row_g rfl 30 (.tmp 4) rfl (w.heap.size + 1) rfl 30 E (0, 0) _ E1.out Try.underlying30 rfl HEI.out ?_) | (go_at_call 19; fail))
  refine (HME.out _).mono ?_
  rintro e w2 ⟨rfl, b2⟩
  have D2 : Hid (w2.heap[w.heap.size]? = some (.cells D 30 (0, 0))) := Lib.hid (by rw [b2.block _ (Array.getElem?_eq_some_iff.1 D1.out).1]; exact D1.out)
  have E2 : Hid (w2.heap[w.heap.size + 1]? = some (.cells E 30 (0, 0))) := Lib.hid (by rw [b2.block _ (Array.getElem?_eq_some_iff.1 E1.out).1]; exact E1.out)
  have J2 : Hid (w2.heap[w.heap.size + 1 + 1]? = some (.cells #[.func (.func 73) #[] #[]] 80 (0, 0))) := Lib.hid (by rw [b2.block _ (Array.getElem?_eq_some_iff.1 J1.out).1]; exact J1.out)
  have Z2 : Hid (w2.heap[w.heap.size + 1 + 1 + 1]? = some (.cells Z 30 (0, 0))) := Lib.hid (by rw [b2.block _ (Array.getElem?_eq_some_iff.1 Z1.out).1]; exact Z1.out)
  have B2 : Hid (Below w.heap.size w w2) := Lib.hid (B1.out.trans (b2.mono B1.out.size))
  clear b2 HME D1 E1 J1 Z1 B1
  have c0 : w2.cell? ⟨w.heap.size, 0, none⟩ = some (.int .i64 s) := by rw [cell_of_row _ _ _ _ _ _ D2.out]; exact h0.out
  have c1 : w2.cell? ⟨w.heap.size + 1, 0, none⟩ = some (.int .i64 t) := by rw [cell_of_row _ _ _ _ _ _ E2.out]; exact h0'.out
  go_wp2_with (refine wpList_store_row rfl 30 (.tmp 6) (.tmp 22) rfl (w.heap.size + 1 + 1 + 1) Z rfl rfl 30 Z Z2.out HZI.out rfl HZ1.out ?_)
  refine bodyPost_ret (v := .tuple #[.agg Z, .int .i64 2]) (results_row_tmp (fn := Try.f68) (p := 6) (u := 7) (ty := 30) rfl _ _ (w.heap.size + 1 + 1 + 1) 30 Z (0, 0) _ rfl (setRow_heap _ _ _ _ _ _ Z2.out) Try.underlying30 rfl HZI.out) rfl ⟨rfl, ?_⟩
  exact below_setRow B2.out (by omega) _

/-- the cells of the join -/
def joinIntersectionOf (D E : Array Value) (i : Nat) : Nat × Nat := mark (open_ D i && open_ E i)
theorem joinIntersectionOf_fin (D E : Array Value) (i : Nat) : (fin (joinIntersectionOf D E i).1 && fin (joinIntersectionOf D E i).2) = true := mark_fin _

set_option maxRecDepth 100000 in
set_option maxHeartbeats 1000000 in
theorem combIntersectionOf_yes (s : Nat) (hs : side s = true) (D E : Array Value) (hD : Wav s D) (hE : Wav s E) (h1 : isMsk s D = true) (h2 : isMsk s E = true) (w : World) : Calls Try.prog 68 #[.agg D, .agg E, .func (.func 73) #[] #[]] w fun e w' => e = .returned (.tuple #[.agg (pic s (gf (joinIntersectionOf D E) (s * s))), .int .i64 0]) ∧ Below w.heap.size w w' := by
  have hz37 := (zero_of_info info37').1
  have HS37 := Lib.hid (zero_of_info info37').2
  have HZ37 : Hid ((pic 0 zc).size = 65) := Lib.hid (pic_size 0 zc zc_size)
  have HZ1 := Lib.hid (zc_one 0)
  have hne := pic_ne
  have HFW : Hid (FinW s (pic s (gf (joinIntersectionOf D E) (s * s)))) := Lib.hid (gf_fin s _ (joinIntersectionOf_fin D E) (s * s))
  have HB : Hid (∀ (v : World) (gj gm gk : Nat), v.cell? ⟨gj, 0, none⟩ = some (.func (.func 73) #[] #[]) → v.heap[gm]? = some (.cells D 30 (0, 0)) → v.heap[gk]? = some (.cells E 30 (0, 0)) → Calls Try.prog 77 #[.int .i64 s, .func (.func 118) #[] #[.pointer (some ⟨gj, 0, none⟩), .pointer (some ⟨gm, 0, none⟩), .pointer (some ⟨gk, 0, none⟩)]] v fun e w' =>
      e = .returned (.tuple #[.agg (pic s (gf (joinIntersectionOf D E) (s * s))), .int .i64 0]) ∧ Below v.heap.size v w') := Lib.hid fun v gj gm gk q1 q2 q3 =>
    build2_CM s hs (joinIntersectionOf D E) (joinIntersectionOf_fin D E) ⟨gj, 0, none⟩ ⟨gm, 0, none⟩ ⟨gk, 0, none⟩ v fun y x z hy hx hz =>
      clos_IntersectionOf s hs D E hD hE y x hy hx gj gm gk z (by rw [hz.cell (World.block_lt_of_cell? v _ q1)]; exact q1) (by rw [hz.block _ (Array.getElem?_eq_some_iff.1 q2).1]; exact q2) (by rw [hz.block _ (Array.getElem?_eq_some_iff.1 q3).1]; exact q3)
  generalize pic s (gf (joinIntersectionOf D E) (s * s)) = G at *
  generalize pic 0 zc = Z at *
  have HZI : Hid ((Try.prog.info? 30).map (·.size) = some Z.size) := Lib.hid (by rw [HZ37.out]; exact HS37.out)
  have HDI : Hid ((Try.prog.info? 30).map (·.size) = some D.size) := Lib.hid (by rw [hD.1]; exact HS37.out)
  have HEI : Hid ((Try.prog.info? 30).map (·.size) = some E.size) := Lib.hid (by rw [hE.1]; exact HS37.out)
  have HFI : Hid ((Try.prog.info? 30).map (·.size) = some G.size) := Lib.hid (by rw [HFW.out.1]; exact HS37.out)
  have HZF : Hid (Z.size = G.size) := Lib.hid (by rw [HFW.out.1]; exact HZ37.out)
  have HF1 := Lib.hid (finW_one HFW.out)
  have HMD := Lib.hid (implIsMask_any s D hD)
  have HME := Lib.hid (implIsMask_any s E hE)
  rw [h1] at HMD
  rw [h2] at HME
  have h0 := Lib.hid hD.2.1
  have h0' := Lib.hid hE.2.1
  clear hD hE
  go_enter Try.func68, Try.ntmps68
  go_upto_region 1 with fail
  have D0 := Lib.hid (q4_0 w (.cells D 30) (.cells E 30) (.cells #[.func (.func 73) #[] #[]] 80) (.cells Z 30))
  have E0 := Lib.hid (q4_1 w (.cells D 30) (.cells E 30) (.cells #[.func (.func 73) #[] #[]] 80) (.cells Z 30))
  have J0 := Lib.hid (q4_2 w (.cells D 30) (.cells E 30) (.cells #[.func (.func 73) #[] #[]] 80) (.cells Z 30))
  have Z0 := Lib.hid (q4_3 w (.cells D 30) (.cells E 30) (.cells #[.func (.func 73) #[] #[]] 80) (.cells Z 30))
  have B0 := Lib.hid (below_q4 w (.cells D 30) (.cells E 30) (.cells #[.func (.func 73) #[] #[]] 80) (.cells Z 30))
  generalize (((w.alloc (.cells D 30)).alloc (.cells E 30)).alloc (.cells #[.func (.func 73) #[] #[]] 80)).alloc (.cells Z 30) = v at *
  go_wp2_with (first | (refine wpList_load_row rfl 30 (.tmp 3) rfl w.heap.size rfl 30 D (0, 0) _ D0.out Try.underlying30 rfl HDI.out ?_) | (go_at_call 19; fail))
  refine (HMD.out _).mono ?_
  rintro e w1 ⟨rfl, b1⟩
  have D1 : Hid (w1.heap[w.heap.size]? = some (.cells D 30 (0, 0))) := Lib.hid (by rw [b1.block _ (Array.getElem?_eq_some_iff.1 D0.out).1]; exact D0.out)
  have E1 : Hid (w1.heap[w.heap.size + 1]? = some (.cells E 30 (0, 0))) := Lib.hid (by rw [b1.block _ (Array.getElem?_eq_some_iff.1 E0.out).1]; exact E0.out)
  have J1 : Hid (w1.heap[w.heap.size + 1 + 1]? = some (.cells #[.func (.func 73) #[] #[]] 80 (0, 0))) := Lib.hid (by rw [b1.block _ (Array.getElem?_eq_some_iff.1 J0.out).1]; exact J0.out)
  have Z1 : Hid (w1.heap[w.heap.size + 1 + 1 + 1]? = some (.cells Z 30 (0, 0))) := Lib.hid (by rw [b1.block _ (Array.getElem?_eq_some_iff.1 Z0.out).1]; exact Z0.out)
  have B1 : Hid (Below w.heap.size w w1) := Lib.hid (B0.out.trans (b1.mono B0.out.size))
  clear b1 HMD D0 E0 J0 Z0 B0
  go_wp2_with (first | (refine wpList_load_row_g rfl 30 (.tmp 4) rfl (w.heap.size + 1) rfl 30 E (0, 0) _ E1.out Try.underlying30 rfl HEI.out ?_) | (go_at_call 19; fail))
  refine (HME.out _).mono ?_
  rintro e w2 ⟨rfl, b2⟩
  have D2 : Hid (w2.heap[w.heap.size]? = some (.cells D 30 (0, 0))) := Lib.hid (by rw [b2.block _ (Array.getElem?_eq_some_iff.1 D1.out).1]; exact D1.out)
  have E2 : Hid (w2.heap[w.heap.size + 1]? = some (.cells E 30 (0, 0))) := Lib.hid (by rw [b2.block _ (Array.getElem?_eq_some_iff.1 E1.out).1]; exact E1.out)
  have J2 : Hid (w2.heap[w.heap.size + 1 + 1]? = some (.cells #[.func (.func 73) #[] #[]] 80 (0, 0))) := Lib.hid (by rw [b2.block _ (Array.getElem?_eq_some_iff.1 J1.out).1]; exact J1.out)
  have Z2 : Hid (w2.heap[w.heap.size + 1 + 1 + 1]? = some (.cells Z 30 (0, 0))) := Lib.hid (by rw [b2.block _ (Array.getElem?_eq_some_iff.1 Z1.out).1]; exact Z1.out)
  have B2 : Hid (Below w.heap.size w w2) := Lib.hid (B1.out.trans (b2.mono B1.out.size))
  clear b2 HME D1 E1 J1 Z1 B1
  have c0 : w2.cell? ⟨w.heap.size, 0, none⟩ = some (.int .i64 s) := by rw [cell_of_row _ _ _ _ _ _ D2.out]; exact h0.out
  have c1 : w2.cell? ⟨w.heap.size + 1, 0, none⟩ = some (.int .i64 s) := by rw [cell_of_row _ _ _ _ _ _ E2.out]; exact h0'.out
  go_wp2_with (go_at_call 77; fail)
  refine (HB.out _ (w.heap.size + 1 + 1) w.heap.size (w.heap.size + 1) (by rw [cell_of_row _ _ _ _ _ _ J2.out]; rfl) D2.out E2.out).mono ?_
  rintro e w3 ⟨rfl, b3⟩
  have Z3 : Hid (w3.heap[w.heap.size + 1 + 1 + 1]? = some (.cells Z 30 (0, 0))) := Lib.hid (by rw [b3.block _ (Array.getElem?_eq_some_iff.1 Z2.out).1]; exact Z2.out)
  have B3 : Hid (Below w.heap.size w w3) := Lib.hid (B2.out.trans (b3.mono B2.out.size))
  clear b3 HB D2 E2 J2 Z2 B2 c0 c1
  go_wp2_with (refine wpList_store_row rfl 30 (.tmp 6) (.tmp 27) rfl (w.heap.size + 1 + 1 + 1) G rfl rfl 30 Z Z3.out HFI.out HZF.out HF1.out ?_)
  refine bodyPost_ret (v := .tuple #[.agg G, .int .i64 0]) (results_row_tmp (fn := Try.f68) (p := 6) (u := 7) (ty := 30) rfl _ _ (w.heap.size + 1 + 1 + 1) 30 G (0, 0) _ rfl (setRow_heap _ _ _ _ _ _ Z3.out) Try.underlying30 rfl HFI.out) rfl ⟨rfl, ?_⟩
  exact below_setRow B3.out (by omega) _

/-- side, cells and code of the answer -/
def ansIntersectionOf (s t : Int) (D E : Array Value) : Int × Array Value × Int := if isMsk s D = false ∨ isMsk t E = false then (0, zc, 1) else if s ≠ t then (0, zc, 2) else (s, gf (joinIntersectionOf D E) (s.toNat * s.toNat), 0)
theorem combIntersectionOf_any (s t : Int) (D E : Array Value) (hD : Wav s D) (hE : Wav t E) (w : World) : Calls Try.prog 68 #[.agg D, .agg E, .func (.func 73) #[] #[]] w fun e w' => e = .returned (.tuple #[.agg (pic (ansIntersectionOf s t D E).1 (ansIntersectionOf s t D E).2.1), .int .i64 (ansIntersectionOf s t D E).2.2]) ∧ Below w.heap.size w w' := by
  unfold ansIntersectionOf
  cases h1 : isMsk s D
  · rw [if_pos (.inl rfl)]; exact combIntersectionOf_no0 s t D E hD hE h1 w
  · cases h2 : isMsk t E
    · rw [if_pos (.inr rfl)]; exact combIntersectionOf_no1 s t D E hD hE h1 h2 w
    · rw [if_neg (by simp)]
      by_cases hst : s = t
      · subst hst
        have hsd : side s = true := by
          unfold isMsk isWav at h1
          rw [Bool.and_eq_true, Bool.and_eq_true] at h1
          exact h1.2.1
        obtain ⟨n, rfl⟩ : ∃ n : Nat, s = n := ⟨s.toNat, by rcases side_yes s hsd with rfl | rfl | rfl | rfl <;> rfl⟩
        rw [if_neg (by simp)]
        exact combIntersectionOf_yes n hsd D E hD hE h1 h2 w
      · rw [if_pos hst]; exact combIntersectionOf_no2 s t D E hD hE h1 h2 hst w
theorem ansIntersectionOf_fin (s t : Int) (D E : Array Value) : FinW (ansIntersectionOf s t D E).1 (pic (ansIntersectionOf s t D E).1 (ansIntersectionOf s t D E).2.1) := by
  unfold ansIntersectionOf
  split
  · exact finW_of _ _ zc_cells3
  · split
    · exact finW_of _ _ zc_cells3
    · exact gf_fin _ _ (joinIntersectionOf_fin D E) _

set_option maxRecDepth 100000 in
set_option maxHeartbeats 1000000 in
theorem implIntersectionOf_any (s t : Int) (D E : Array Value) (hD : Wav s D) (hE : Wav t E) (w : World) : Calls Try.prog 17 #[.agg D, .agg E] w fun e w' => e = .returned (.tuple #[.agg (pic (ansIntersectionOf s t D E).1 (ansIntersectionOf s t D E).2.1), .int .i64 (ansIntersectionOf s t D E).2.2]) ∧ Below w.heap.size w w' := by
  have hz37 := (zero_of_info info37').1
  have HS37 := Lib.hid (zero_of_info info37').2
  have HZ37 : Hid ((pic 0 zc).size = 65) := Lib.hid (pic_size 0 zc zc_size)
  have HZ1 := Lib.hid (zc_one 0)
  have hne := pic_ne
  have HFW := Lib.hid (ansIntersectionOf_fin s t D E)
  have HB := Lib.hid (combIntersectionOf_any s t D E hD hE)
  generalize pic (ansIntersectionOf s t D E).1 (ansIntersectionOf s t D E).2.1 = G at *
  generalize (ansIntersectionOf s t D E).2.2 = c at *
  generalize pic 0 zc = Z at *
  have HDI : Hid ((Try.prog.info? 30).map (·.size) = some D.size) := Lib.hid (by rw [hD.1]; exact HS37.out)
  have HEI : Hid ((Try.prog.info? 30).map (·.size) = some E.size) := Lib.hid (by rw [hE.1]; exact HS37.out)
  have HFI : Hid ((Try.prog.info? 30).map (·.size) = some G.size) := Lib.hid (by rw [HFW.out.1]; exact HS37.out)
  have HZF : Hid (Z.size = G.size) := Lib.hid (by rw [HFW.out.1]; exact HZ37.out)
  have HF1 := Lib.hid (finW_one HFW.out)
  clear hD hE HZ1
  go_enter Try.func17, Try.ntmps17
  go_wp2_with (first | (refine wpList_load_row rfl 30 (.tmp 2) rfl w.heap.size rfl 30 D (0, 0) _ (h3_0 _ _ _ _) Try.underlying30 rfl HDI.out ?_) | (refine wpList_load_row rfl 30 (.tmp 3) rfl (w.heap.size + 1) rfl 30 E (0, 0) _ (h3_1 _ _ _ _) Try.underlying30 rfl HEI.out ?_) | (go_at_call 68; fail))
  refine (HB.out _).mono ?_
  rintro e w1 ⟨rfl, b1⟩
  have Z1 : Hid (w1.heap[w.heap.size + 1 + 1]? = some (.cells Z 30 (0, 0))) := Lib.hid (by rw [b1.block _ (by rw [size_al, size_al, size_al]; omega)]; exact h3_2 w (.cells D 30) (.cells E 30) (.cells Z 30))
  have B1 : Hid (Below w.heap.size w w1) := Lib.hid (((((Below.refl _ _).alloc (Nat.le_refl _) _).alloc (by rw [size_al]; omega) _).alloc (by rw [size_al, size_al]; omega) _).trans (b1.mono (by rw [size_al, size_al, size_al]; omega)))
  clear b1 HB
  go_wp2_with (refine wpList_store_row rfl 30 (.tmp 4) (.tmp 9) rfl (w.heap.size + 1 + 1) G rfl rfl 30 Z Z1.out HFI.out HZF.out HF1.out ?_)
  refine bodyPost_ret (v := .tuple #[.agg G, .int .i64 c]) (results_row_tmp (fn := Try.f17) (p := 4) (u := 5) (ty := 30) rfl _ _ (w.heap.size + 1 + 1) 30 G (0, 0) _ rfl (setRow_heap _ _ _ _ _ _ Z1.out) Try.underlying30 rfl HFI.out) rfl ⟨rfl, ?_⟩
  exact below_setRow B1.out (by omega) _
end Go.Proofs.Ytjmfffgddmnkmab
