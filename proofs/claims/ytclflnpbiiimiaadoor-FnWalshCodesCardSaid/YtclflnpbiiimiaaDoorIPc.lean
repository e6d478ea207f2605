/- The program's picture of sums: the picture and the code. Condition: as many numbers as a law lets in. -/
import Derived.Test.YtclflnpbiiimiaaDoorBq
import Derived.Test.YtclflnpbiiimiaaDoorM33
import Derived.Test.YtclflnpbiiimiaaDoorM22
import Derived.Test.YtclflnpbiiimiaaDoorM2
namespace Go.Proofs.YtclflnpbiiimiaaDoor
open Go Go.RowKit Ieee

theorem pc_chk (n : Int) (A : List Nat) (h : chk (psOk n A) [A] ≠ 0) : pcC n A = chk (psOk n A) [A] := by
  unfold pcC
  unfold chk at h ⊢
  simp only [List.all_cons, List.all_nil, Bool.and_true] at h ⊢
  cases h1 : A.all fin
  · rfl
  · cases h2 : psOk n A
    · rfl
    · rw [h1, h2] at h; exact absurd rfl h
theorem pc_zero (n : Int) (A : List Nat) (h : chk (psOk n A) [A] = 0) : A.all fin = true ∧ psOk n A = true ∧ pcC n A = sbCode A := by
  unfold chk at h
  simp only [List.all_cons, List.all_nil, Bool.and_true] at h
  cases h1 : A.all fin
  · rw [h1] at h; simp at h
  · cases h2 : psOk n A
    · rw [h1, h2] at h; simp at h
    · exact ⟨rfl, rfl, by unfold pcC; rw [if_neg (by rw [h1]; decide), if_neg (by rw [h2]; decide)]⟩

set_option maxRecDepth 100000 in
set_option maxHeartbeats 1600000 in
theorem implPc_no (n : Int) (A : List Nat) (hs : side n = false) : PicC 23 n A (pcS n A) (pcZ n A) (pcC n A) := by
  intro hA v w hO
  obtain ⟨a, cap, rfl, hC⟩ := hO.came
  have hk : psOk n A = false := by unfold psOk; rw [hs]; rfl
  have hc0 : chk (psOk n A) [A] ≠ 0 := by
    rw [hk]
    unfold chk
    simp only [List.all_cons, List.all_nil, Bool.and_true]
    cases A.all fin <;> simp
  have hc := pc_chk n A hc0
  obtain ⟨e1, e2⟩ := pc_other hc hc0
  rw [e1, e2, hc, hk]
  rw [hk] at hc0
  have HLA := Lib.hid hA
  have HA := Lib.hid hC
  obtain ⟨C, hCC⟩ : ∃ C, C = chk false [A] := ⟨_, rfl⟩
  rw [← hCC] at hc0 ⊢
  have HCC := Lib.hid hCC
  have hz37 := (zero_of_info info32).1
  have HI : Hid ((Tryd.prog.info? 41).map (·.size) = some (pic 0 zero64).size) := Lib.hid (by rw [pic_size 0 zero64 (by simp [zero64])]; exact (zero_of_info info32).2)
  have H1 : Hid ((pic 0 zero64).all (·.oneCell') = true) := Lib.hid (by rw [← gl_zero (fun _ => 0)]; exact gl_one _ _ _)
  have hne : ¬ pic 0 zero64 = #[] := fun e => by
    have := congrArg Array.size e
    rw [pic_size 0 zero64 (by simp [zero64])] at this
    simp at this
  have HSD : Hid (∀ z, Calls Tryd.prog 50 #[.int .i64 n] z fun e w' => e = .returned (.bool false) ∧ z = w') := Lib.hid (fun z => by rw [← hs]; exact isSide_any n z)
  have hd : (C != 0) = true := by simpa using hc0
  generalize pic 0 zero64 = Z at *
  clear hs hO hC hc e1 e2 hk hCC hA hc0
  go_enter Tryd.func23, Tryd.ntmps23
  go_wp2_with fail
  refine (HSD.out _).mono ?_
  rintro e w' ⟨rfl, rfl⟩
  have G1 : Hid ((w.alloc (.cells Z 41)).heap[w.heap.size]? = some (.cells Z 41 (0, 0))) := Lib.hid (h1_0 _ _)
  have B1 := Lib.hid ((Below.refl w.heap.size w).alloc (Nat.le_refl _) (.cells Z 41))
  have hsz : (w.alloc (.cells Z 41)).heap.size = w.heap.size + 1 := size_al _ _
  have HZW := Lib.hid hsz
  go_wp2_with fail
  generalize w.alloc (.cells Z 41) = v at *
  have HV : Hid (Below w.heap.size w (v.alloc (.cells #[.slice a A.length cap] 26)) ∧ Calls Tryd.prog 43 #[.bool false, .slice (some ⟨w.heap.size + 1, 0, none⟩) 1 1] (v.alloc (.cells #[.slice a A.length cap] 26)) fun e w' => e = .returned (.int .i64 C) ∧ ∃ d, w' = (v.alloc (.cells #[.slice a A.length cap] 26)).drewN d) := Lib.hid (by
    have b2 : Below w.heap.size w (v.alloc (.cells #[.slice a A.length cap] 26)) := B1.out.alloc (by rw [HZW.out]; omega) _
    have h := check_any false v.heap.size 1 1 [A] _ (rows_one (T := 26) (heap_alloc_new v _) (HA.out.below b2 (Nat.le_refl _)) HLA.out) (by omega)
    rw [← HCC.out, HZW.out] at h
    exact ⟨b2, h⟩)
  have G2 : Hid ((v.alloc (.cells #[.slice a A.length cap] 26)).heap[w.heap.size]? = some (.cells Z 41 (0, 0))) := Lib.hid (by rw [heap_alloc_old _ _ (by rw [HZW.out]; omega)]; exact G1.out)
  generalize v.alloc (.cells #[.slice a A.length cap] 26) = u at *
  clear G1 B1 hsz
  refine HV.out.2.mono ?_
  rintro e w3 ⟨rfl, d, rfl⟩
  have G3 : Hid ((u.drewN d).heap[w.heap.size]? = some (.cells Z 41 (0, 0))) := Lib.hid G2.out
  have B3 := Lib.hid (below_drewN HV.out.1 d)
  generalize u.drewN d = w3 at *
  clear G2 HV
  go_wp2_with (refine wpList_store_row rfl 41 (.tmp 4) (.tmp 24) rfl w.heap.size Z rfl rfl 41 Z G3.out HI.out rfl H1.out ?_)
  refine bodyPost_ret (v := .tuple #[.agg Z, .int .i64 C]) (results_row_tmp (fn := Tryd.f23) (p := 4) (u := 5) (ty := 41) rfl _ _ w.heap.size 41 Z (0, 0) _ rfl (setRow_heap _ _ _ _ _ _ G3.out) Tryd.underlying41 rfl HI.out) rfl ⟨rfl, ?_⟩
  exact below_setRow B3.out (Nat.le_refl _) _

theorem pc_ok (s : Nat) (A : List Nat) (hs : side (s : Int) = true) : psOk s A = ((A.length : Int) == ((s * s : Nat) : Int)) := by
  unfold psOk
  rw [hs, Bool.true_and, Int.natCast_mul]
  rfl

set_option maxRecDepth 100000 in
set_option maxHeartbeats 1600000 in
theorem implPc_bad (s : Nat) (A : List Nat) (hs : side (s : Int) = true) (hc0 : chk (psOk s A) [A] ≠ 0) : PicC 23 s A (pcS s A) (pcZ s A) (pcC s A) := by
  intro hA v w hO
  obtain ⟨a, cap, rfl, hC⟩ := hO.came
  have hc := pc_chk s A hc0
  obtain ⟨e1, e2⟩ := pc_other hc hc0
  rw [e1, e2, hc]
  have HLA := Lib.hid hA
  have HA := Lib.hid hC
  have hq := pc_ok s A hs
  generalize psOk s A = b at *
  obtain ⟨C, hCC⟩ : ∃ C, C = chk b [A] := ⟨_, rfl⟩
  rw [← hCC] at hc0 ⊢
  have HCC := Lib.hid hCC
  have hz37 := (zero_of_info info32).1
  have HS32 := Lib.hid (zero_of_info info32).2
  have HZ32 : Hid ((pic 0 zero64).size = 65) := Lib.hid (pic_size 0 zero64 (by simp [zero64]))
  have HI : Hid ((Tryd.prog.info? 41).map (·.size) = some (pic 0 zero64).size) := Lib.hid (by rw [HZ32.out]; exact HS32.out)
  have H1 : Hid ((pic 0 zero64).all (·.oneCell') = true) := Lib.hid (by rw [← gl_zero (fun _ => 0)]; exact gl_one _ _ _)
  have hne : ¬ pic 0 zero64 = #[] := fun e => by
    have := congrArg Array.size e
    rw [HZ32.out] at this
    simp at this
  have hss := sq_le2 s hs
  have hsq : (s : Int) * s = ((s * s : Nat) : Int) := by rw [Int.natCast_mul]
  have e5 : IntKind.i64.wrap ((s : Int) * s) = ((s * s : Nat) : Int) := (IntWalk.i64_in _ (by omega)).trans hsq
  have HSD : Hid (∀ z, Calls Tryd.prog 50 #[.int .i64 (s : Int)] z fun e w' => e = .returned (.bool true) ∧ z = w') := Lib.hid (fun z => by rw [← hs]; exact isSide_any _ z)
  have hd : (C != 0) = true := by simpa using hc0
  have hq1 : ((A.length : Int) == ((s * s : Nat) : Int)) = b := hq.symm
  generalize pic 0 zero64 = Z at *
  clear hs hO hC hc e1 e2 hCC hA hc0 hq hss hsq
  generalize s * s = N at *
  go_enter Tryd.func23, Tryd.ntmps23
  go_wp2_with fail
  refine (HSD.out _).mono ?_
  rintro e w' ⟨rfl, rfl⟩
  have G1 : Hid ((w.alloc (.cells Z 41)).heap[w.heap.size]? = some (.cells Z 41 (0, 0))) := Lib.hid (h1_0 _ _)
  have B1 := Lib.hid ((Below.refl w.heap.size w).alloc (Nat.le_refl _) (.cells Z 41))
  have hsz : (w.alloc (.cells Z 41)).heap.size = w.heap.size + 1 := size_al _ _
  have HZW := Lib.hid hsz
  go_wp2_with fail
  generalize w.alloc (.cells Z 41) = v at *
  have HV : Hid (Below w.heap.size w (v.alloc (.cells #[.slice a A.length cap] 26)) ∧ Calls Tryd.prog 43 #[.bool b, .slice (some ⟨w.heap.size + 1, 0, none⟩) 1 1] (v.alloc (.cells #[.slice a A.length cap] 26)) fun e w' => e = .returned (.int .i64 C) ∧ ∃ d, w' = (v.alloc (.cells #[.slice a A.length cap] 26)).drewN d) := Lib.hid (by
    have b2 : Below w.heap.size w (v.alloc (.cells #[.slice a A.length cap] 26)) := B1.out.alloc (by rw [HZW.out]; omega) _
    have h := check_any b v.heap.size 1 1 [A] _ (rows_one (T := 26) (heap_alloc_new v _) (HA.out.below b2 (Nat.le_refl _)) HLA.out) (by omega)
    rw [← HCC.out, HZW.out] at h
    exact ⟨b2, h⟩)
  have G2 : Hid ((v.alloc (.cells #[.slice a A.length cap] 26)).heap[w.heap.size]? = some (.cells Z 41 (0, 0))) := Lib.hid (by rw [heap_alloc_old _ _ (by rw [HZW.out]; omega)]; exact G1.out)
  generalize v.alloc (.cells #[.slice a A.length cap] 26) = u at *
  clear G1 B1 hsz
  refine HV.out.2.mono ?_
  rintro e w3 ⟨rfl, d, rfl⟩
  have G3 : Hid ((u.drewN d).heap[w.heap.size]? = some (.cells Z 41 (0, 0))) := Lib.hid G2.out
  have B3 := Lib.hid (below_drewN HV.out.1 d)
  generalize u.drewN d = w3 at *
  clear G2 HV
  go_wp2_with (refine wpList_store_row rfl 41 (.tmp 4) (.tmp 24) rfl w.heap.size Z rfl rfl 41 Z G3.out HI.out rfl H1.out ?_)
  refine bodyPost_ret (v := .tuple #[.agg Z, .int .i64 C]) (results_row_tmp (fn := Tryd.f23) (p := 4) (u := 5) (ty := 41) rfl _ _ w.heap.size 41 Z (0, 0) _ rfl (setRow_heap _ _ _ _ _ _ G3.out) Tryd.underlying41 rfl HI.out) rfl ⟨rfl, ?_⟩
  exact below_setRow B3.out (Nat.le_refl _) _

theorem topP_enters : ∀ (args : Array Value) w, (callFunc 61 args).run Tryd.prog w = .ok (.enter 61 args) w := enters_of Tryd.func61 (by kernel_rfl) rfl

set_option maxRecDepth 100000 in
set_option maxHeartbeats 3200000 in
theorem implPc_yes (s : Nat) (A : List Nat) (hs : side (s : Int) = true) (hc0 : chk (psOk s A) [A] = 0) : PicC 23 s A (pcS s A) (pcZ s A) (pcC s A) := by
  intro hA v w hO
  obtain ⟨a, cap, rfl, hC⟩ := hO.came
  obtain ⟨hf, hk, hpc⟩ := pc_zero s A hc0
  have hq := pc_ok s A hs
  have hlen : A.length = s * s := by
    rw [hq] at hk
    have := of_decide_eq_true hk
    omega
  have hl1 : lenI (A.length : Int) = true := by
    rw [hlen]
    rcases side_yes _ hs with e | e | e | e
    · obtain rfl : s = 1 := by omega
      rfl
    · obtain rfl : s = 2 := by omega
      rfl
    · obtain rfl : s = 4 := by omega
      rfl
    · obtain rfl : s = 8 := by omega
      rfl
  have HLA := Lib.hid hA
  have HA := Lib.hid hC
  have HBK : Hid (∀ w', Below w.heap.size w w' → Calls Tryd.prog 14 #[.slice a A.length cap] w' fun e w2 => ∃ r, e = .returned (.tuple #[r, .int .i64 (sbCode A)]) ∧ OwnF w'.heap.size r (bkList A) w2 ∧ Below w'.heap.size w' w2) := Lib.hid (fun w' hb => implBk A hA _ w' (hO.below hb (Nat.le_refl _)))
  have hz37 := (zero_of_info info32).1
  have HS32 := Lib.hid (zero_of_info info32).2
  have HZ32 : Hid ((pic 0 zero64).size = 65) := Lib.hid (pic_size 0 zero64 (by simp [zero64]))
  have HI : Hid ((Tryd.prog.info? 41).map (·.size) = some (pic 0 zero64).size) := Lib.hid (by rw [HZ32.out]; exact HS32.out)
  have H1 : Hid ((pic 0 zero64).all (·.oneCell') = true) := Lib.hid (by rw [← gl_zero (fun _ => 0)]; exact gl_one _ _ _)
  have hne : ¬ pic 0 zero64 = #[] := fun e => by
    have := congrArg Array.size e
    rw [HZ32.out] at this
    simp at this
  have hss := sq_le2 s hs
  have hsq : (s : Int) * s = ((s * s : Nat) : Int) := by rw [Int.natCast_mul]
  have e5 : IntKind.i64.wrap ((s : Int) * s) = ((s * s : Nat) : Int) := (IntWalk.i64_in _ (by omega)).trans hsq
  have HSD : Hid (∀ z, Calls Tryd.prog 50 #[.int .i64 (s : Int)] z fun e w' => e = .returned (.bool true) ∧ z = w') := Lib.hid (fun z => by rw [← hs]; exact isSide_any _ z)
  rw [hk] at hc0
  obtain ⟨C, hCC⟩ : ∃ C, C = chk true [A] := ⟨_, rfl⟩
  rw [← hCC] at hc0
  have HCC := Lib.hid hCC
  have hd : (C != 0) = false := by rw [hc0]; rfl
  have hq1 : ((A.length : Int) == ((s * s : Nat) : Int)) = true := by rw [← hq]; exact hk
  rw [hpc]
  have HEE : Hid (okRnd A (lg A.length) = false → sbCode A = 3 ∧ pcS s A = 0 ∧ pcZ s A = zero64) := Lib.hid (fun ho => by
    have h3 := (sb_lim hf hl1 ho).1
    exact ⟨h3, pc_other (hpc.trans h3) (by decide)⟩)
  have HYE : Hid (okRnd A (lg A.length) = true → sbCode A = 0 ∧ pcS s A = s ∧ pcZ s A = gl (pcF A) (s * s) ∧ (bkList A).length = s * s ∧ ∀ i, i < s * s → fin ((bkList A).getD i 0) = true) := Lib.hid (fun ho => by
    have h3 := sb_yes hf hl1 ho
    have hc1 : pcC s A = 0 := hpc.trans h3.1
    refine ⟨h3.1, by unfold pcS; rw [if_pos hc1], by unfold pcZ; rw [if_pos hc1, hlen], by rw [h3.2.2, List.length_map, rnds_len, hlen], fun i hi => ?_⟩
    have hm : i < (rnds A (lg A.length)).length := by rw [rnds_len, hlen]; exact hi
    have e : (bkList A).getD i 0 = divS ((rnds A (lg A.length)).getD i 0) (fl32 A.length) := by
      rw [h3.2.2, List.getD_eq_getElem?_getD, List.getElem?_map, List.getElem?_eq_getElem hm, List.getD_eq_getElem?_getD, List.getElem?_eq_getElem hm]
      rfl
    rw [e]
    exact divS_fin _ _ (all_at (okRnd_last ho) i hm) hl1)
  have HBP : Hid (∀ F, (∀ i, i < s * s → fin (F i) = true) → ∀ lb w', (∀ i, i < s * s → ∀ W, Below w'.heap.size w' W → Calls Tryd.prog 61 (#[.int .i64 (i : Int)] ++ lb) W fun e W' => e = .returned (.float .f32 (F i)) ∧ W = W') → Calls Tryd.prog 60 #[.int .i64 s, .func (.func 61) #[] lb] w' fun e w2 => e = .returned (.tuple #[.agg (pic s (gl F (s * s))), .int .i64 0]) ∧ Below w'.heap.size w' w2) := Lib.hid (fun F hF lb w' hT => buildPic_any s (s * s) rfl ⟨by rcases side_yes _ hs with e | e | e | e <;> omega, hss⟩ F hF _ lb (fun j v => topP_enters _ v) w' hT)
  have HPF : Hid (∀ i, pcF A i = mx2 ((bkList A).getD i 0) 0) := Lib.hid (fun i => rfl)
  generalize pcZ s A = YZ at *
  generalize pcS s A = YS at *
  generalize pcF A = F at *
  generalize bkList A = K at *
  generalize okRnd A (lg A.length) = ok at *
  generalize sbCode A = D at *
  generalize hZZ : pic 0 zero64 = Z at *
  have HZZ := Lib.hid hZZ
  clear hZZ
  have HLEN := Lib.hid hlen
  clear hs hO hC hc0 hCC hA hq hsq hf hk hpc hl1 hlen
  generalize s * s = N at *
  cases ok
  · obtain ⟨e1, e2, e3⟩ := HEE.out rfl
    rw [e1, e2, e3]
    rw [e1] at HBK
    clear HEE HYE e1 e2 e3 HBP HPF
    go_enter Tryd.func23, Tryd.ntmps23
    go_wp2_with fail
    refine (HSD.out _).mono ?_
    rintro e w' ⟨rfl, rfl⟩
    have G1 : Hid ((w.alloc (.cells Z 41)).heap[w.heap.size]? = some (.cells Z 41 (0, 0))) := Lib.hid (h1_0 _ _)
    have B1 := Lib.hid ((Below.refl w.heap.size w).alloc (Nat.le_refl _) (.cells Z 41))
    have hsz : (w.alloc (.cells Z 41)).heap.size = w.heap.size + 1 := size_al _ _
    have HZW := Lib.hid hsz
    go_wp2_with fail
    generalize w.alloc (.cells Z 41) = v at *
    have HV : Hid (Below w.heap.size w (v.alloc (.cells #[.slice a A.length cap] 26)) ∧ Calls Tryd.prog 43 #[.bool true, .slice (some ⟨w.heap.size + 1, 0, none⟩) 1 1] (v.alloc (.cells #[.slice a A.length cap] 26)) fun e w' => e = .returned (.int .i64 C) ∧ ∃ d, w' = (v.alloc (.cells #[.slice a A.length cap] 26)).drewN d) := Lib.hid (by
      have b2 : Below w.heap.size w (v.alloc (.cells #[.slice a A.length cap] 26)) := B1.out.alloc (by rw [HZW.out]; omega) _
      have h := check_any true v.heap.size 1 1 [A] _ (rows_one (T := 26) (heap_alloc_new v _) (HA.out.below b2 (Nat.le_refl _)) HLA.out) (by omega)
      rw [← HCC.out, HZW.out] at h
      exact ⟨b2, h⟩)
    have G2 : Hid ((v.alloc (.cells #[.slice a A.length cap] 26)).heap[w.heap.size]? = some (.cells Z 41 (0, 0))) := Lib.hid (by rw [heap_alloc_old _ _ (by rw [HZW.out]; omega)]; exact G1.out)
    generalize v.alloc (.cells #[.slice a A.length cap] 26) = u at *
    clear G1 B1 hsz
    refine HV.out.2.mono ?_
    rintro e w3 ⟨rfl, d, rfl⟩
    have G3 : Hid ((u.drewN d).heap[w.heap.size]? = some (.cells Z 41 (0, 0))) := Lib.hid G2.out
    have B3 := Lib.hid (below_drewN HV.out.1 d)
    generalize u.drewN d = w3 at *
    clear G2 HV
    go_wp2_with fail
    refine (HBK.out _ B3.out).mono ?_
    rintro e w4 ⟨r, rfl, o4, b4⟩
    have G4 : Hid (w4.heap[w.heap.size]? = some (.cells Z 41 (0, 0))) := Lib.hid (by rw [b4.block _ (Array.getElem?_eq_some_iff.1 G3.out).1]; exact G3.out)
    have B4 := Lib.hid (B3.out.trans (b4.mono B3.out.size))
    obtain ⟨ad, cp, rfl, oc⟩ := o4.came
    have OC := Lib.hid oc
    clear o4 oc b4 G3 B3 HBK HA HZW
    have G5 : Hid ((w4.alloc (.cells #[.slice ad K.length cp] 26)).heap[w.heap.size]? = some (.cells Z 41 (0, 0))) := Lib.hid (by rw [heap_alloc_old _ _ (Array.getElem?_eq_some_iff.1 G4.out).1]; exact G4.out)
    have B5 : Hid (Below w.heap.size w (w4.alloc (.cells #[.slice ad K.length cp] 26))) := Lib.hid (B4.out.alloc B4.out.size _)
    go_wp2_with (refine wpList_store_row rfl 41 (.tmp 4) (.tmp 33) rfl w.heap.size Z rfl rfl 41 Z G5.out HI.out rfl H1.out ?_)
    refine bodyPost_ret (v := .tuple #[.agg Z, .int .i64 3]) (results_row_tmp (fn := Tryd.f23) (p := 4) (u := 5) (ty := 41) rfl _ _ w.heap.size 41 Z (0, 0) _ rfl (setRow_heap _ _ _ _ _ _ G5.out) Tryd.underlying41 rfl HI.out) rfl ⟨by rw [HZZ.out], ?_⟩
    exact below_setRow B5.out (Nat.le_refl _) _
  · obtain ⟨e1, e2, e3, e4, e5⟩ := HYE.out rfl
    rw [e1, e2, e3]
    rw [e1] at HBK
    have HK4 := Lib.hid e4
    have HK5 := Lib.hid e5
    clear HEE HYE e1 e2 e3 e4 e5
    go_enter Tryd.func23, Tryd.ntmps23
    go_wp2_with fail
    refine (HSD.out _).mono ?_
    rintro e w' ⟨rfl, rfl⟩
    have G1 : Hid ((w.alloc (.cells Z 41)).heap[w.heap.size]? = some (.cells Z 41 (0, 0))) := Lib.hid (h1_0 _ _)
    have B1 := Lib.hid ((Below.refl w.heap.size w).alloc (Nat.le_refl _) (.cells Z 41))
    have hsz : (w.alloc (.cells Z 41)).heap.size = w.heap.size + 1 := size_al _ _
    have HZW := Lib.hid hsz
    go_wp2_with fail
    generalize w.alloc (.cells Z 41) = v at *
    have HV : Hid (Below w.heap.size w (v.alloc (.cells #[.slice a A.length cap] 26)) ∧ Calls Tryd.prog 43 #[.bool true, .slice (some ⟨w.heap.size + 1, 0, none⟩) 1 1] (v.alloc (.cells #[.slice a A.length cap] 26)) fun e w' => e = .returned (.int .i64 C) ∧ ∃ d, w' = (v.alloc (.cells #[.slice a A.length cap] 26)).drewN d) := Lib.hid (by
      have b2 : Below w.heap.size w (v.alloc (.cells #[.slice a A.length cap] 26)) := B1.out.alloc (by rw [HZW.out]; omega) _
      have h := check_any true v.heap.size 1 1 [A] _ (rows_one (T := 26) (heap_alloc_new v _) (HA.out.below b2 (Nat.le_refl _)) HLA.out) (by omega)
      rw [← HCC.out, HZW.out] at h
      exact ⟨b2, h⟩)
    have G2 : Hid ((v.alloc (.cells #[.slice a A.length cap] 26)).heap[w.heap.size]? = some (.cells Z 41 (0, 0))) := Lib.hid (by rw [heap_alloc_old _ _ (by rw [HZW.out]; omega)]; exact G1.out)
    generalize v.alloc (.cells #[.slice a A.length cap] 26) = u at *
    clear G1 B1 hsz
    refine HV.out.2.mono ?_
    rintro e w3 ⟨rfl, d, rfl⟩
    have G3 : Hid ((u.drewN d).heap[w.heap.size]? = some (.cells Z 41 (0, 0))) := Lib.hid G2.out
    have B3 := Lib.hid (below_drewN HV.out.1 d)
    generalize u.drewN d = w3 at *
    clear G2 HV
    go_wp2_with fail
    refine (HBK.out _ B3.out).mono ?_
    rintro e w4 ⟨r, rfl, o4, b4⟩
    have G4 : Hid (w4.heap[w.heap.size]? = some (.cells Z 41 (0, 0))) := Lib.hid (by rw [b4.block _ (Array.getElem?_eq_some_iff.1 G3.out).1]; exact G3.out)
    have B4 := Lib.hid (B3.out.trans (b4.mono B3.out.size))
    obtain ⟨ad, cp, rfl, oc⟩ := o4.came
    have OC := Lib.hid oc
    clear o4 oc b4 G3 B3 HBK HA HZW
    rw [HK4.out] at OC ⊢
    have G5 : Hid ((w4.alloc (.cells #[.slice ad N cp] 26)).heap[w.heap.size]? = some (.cells Z 41 (0, 0))) := Lib.hid (by rw [heap_alloc_old _ _ (Array.getElem?_eq_some_iff.1 G4.out).1]; exact G4.out)
    have B5 : Hid (Below w.heap.size w (w4.alloc (.cells #[.slice ad N cp] 26))) := Lib.hid (B4.out.alloc B4.out.size _)
    have OC5 := Lib.hid (OC.out.below ((Below.refl w4.heap.size w4).alloc (Nat.le_refl _) (.cells #[.slice ad N cp] 26)) (Nat.le_refl _))
    have bX := (Boxed.new w4 26 (.slice ad N cp)).cell
    have HBX := Lib.hid bX
    clear OC bX B4 G4
    go_wp2_with fail
    generalize hB4 : w4.heap.size = B4 at *
    generalize w4.alloc (.cells #[.slice ad N cp] 26) = w5 at *
    refine (HBP.out F (fun i hi => by rw [HPF.out]; exact mx2_fin _ (HK5.out i hi)) _ w5 (fun i hi W hW => ?_)).mono ?_
    · obtain ⟨b, off, hab, hb, hc⟩ := OC5.out.2 (by omega)
      rw [HPF.out]
      subst hab
      exact topP_any _ i N cp _ b off W hi ((hW.cell (p := ⟨B4, 0, none⟩) (World.block_lt_of_cell? _ _ HBX.out)).trans HBX.out) ((hW.cell (p := ⟨b, off + i, none⟩) hb).trans (hc i hi)) (notnan_fin _ (HK5.out i hi))
    · rintro e w6 ⟨rfl, b6⟩
      have G6 : Hid (w6.heap[w.heap.size]? = some (.cells Z 41 (0, 0))) := Lib.hid (by rw [b6.block _ (Array.getElem?_eq_some_iff.1 G5.out).1]; exact G5.out)
      have B6 := Lib.hid (B5.out.trans (b6.mono B5.out.size))
      have HPS : Hid ((pic s (gl F N)).size = 65) := Lib.hid (pic_size _ _ (gl_size F N))
      have HP1 : Hid ((pic s (gl F N)).all (·.oneCell') = true) := Lib.hid (gl_one s F N)
      generalize hE : pic s (gl F N) = E at *
      have HE := Lib.hid hE
      clear hE
      have HCI : Hid ((Tryd.prog.info? 41).map (·.size) = some E.size) := Lib.hid (by rw [HPS.out]; exact HS32.out)
      have HZC : Hid (Z.size = E.size) := Lib.hid (by rw [HPS.out, HZ32.out])
      clear b6 G5 B5 HBP OC5
      go_wp2_with (refine wpList_store_row rfl 41 (.tmp 4) (.tmp 38) rfl w.heap.size E rfl rfl 41 Z G6.out HCI.out HZC.out HP1.out ?_)
      refine bodyPost_ret (v := .tuple #[.agg E, .int .i64 0]) (results_row_tmp (fn := Tryd.f23) (p := 4) (u := 5) (ty := 41) rfl _ _ w.heap.size 41 E (0, 0) _ rfl (setRow_heap _ _ _ _ _ _ G6.out) Tryd.underlying41 rfl HCI.out) rfl ⟨by rw [HE.out], ?_⟩
      exact below_setRow B6.out (Nat.le_refl _) _

theorem implPc (n : Int) (A : List Nat) : PicC 23 n A (pcS n A) (pcZ n A) (pcC n A) := by
  cases hs : side n
  · exact implPc_no n A hs
  · obtain ⟨s, rfl⟩ : ∃ s : Nat, n = s := ⟨n.toNat, by rcases side_yes n hs with rfl | rfl | rfl | rfl <;> rfl⟩
    by_cases hc : chk (psOk s A) [A] = 0
    · exact implPc_yes s A hs hc
    · exact implPc_bad s A hs hc

end Go.Proofs.YtclflnpbiiimiaaDoor
