/- WaveOfHeights: the program's answer. Condition: a list that a law lets in. -/
import Derived.Test.YtlkgdfednejhiaaWo
namespace Go.Proofs.Ytlkgdfednejhiaa
open Go Go.RowKit

set_option maxRecDepth 100000 in
set_option maxHeartbeats 1000000 in
theorem build2_Wo (s : Nat) (hs : side s = true) (F : Nat → Nat × Nat) (hF : ∀ i, (fin (F i).1 && fin (F i).2) = true) (ph pn : Addr) (w : World)
    (hR : ∀ (y x : Nat) (v : World), y < s → x < s → Below w.heap.size w v → Calls Try.prog 79 #[.int .i64 y, .int .i64 x, .pointer (some ph), .pointer (some pn)] v fun e w' =>
      e = .returned (.complex .f32 (F (s * y + x)).1 (F (s * y + x)).2) ∧ Below v.heap.size v w') :
    Calls Try.prog 53 #[.int .i64 s, .func (.func 79) #[] #[.pointer (some ph), .pointer (some pn)]] w fun e w' =>
      e = .returned (.tuple #[.agg (pic s (gf F (s * s))), .int .i64 0]) ∧ Below w.heap.size w w' := by
  have hz37 := (zero_of_info info37').1
  have HS37 := Lib.hid (zero_of_info info37').2
  have HZ37 : Hid ((pic 0 zc).size = 65) := Lib.hid (pic_size 0 zc zc_size)
  have hne := pic_ne
  have HB := Lib.hid (pic_set0 0 s zc)
  have HR := Lib.hid hR
  have HFW : Hid (FinW s (pic s (gf F (s * s)))) := Lib.hid (gf_fin s F hF (s * s))
  have HPL : Hid (∀ y x, y < s → x < s → s * y + x < 64 ∧ s * y ≤ 56) := Lib.hid fun y x hy hx => place_lt s y x hs hy hx
  have hs8 : s ≤ 8 := by rcases side_nat s hs with rfl | rfl | rfl | rfl <;> omega
  clear hR hF
  obtain ⟨Z, hZ⟩ : ∃ Z, Z = pic 0 zc := ⟨_, rfl⟩
  rw [← hZ] at hz37 HZ37 hne HB
  have HE2 : Hid ((Try.prog.info? 33).map (·.size) = some (Z.setIfInBounds 0 (Value.int .i64 s)).size) := Lib.hid (by rw [HB.out, pic_size _ _ zc_size]; exact HS37.out)
  have HZ2 : Hid (Z.size = (Z.setIfInBounds 0 (Value.int .i64 s)).size) := Lib.hid (by simp)
  have H2 : Hid ((Z.setIfInBounds 0 (Value.int .i64 s)).all (·.oneCell') = true) := Lib.hid (by rw [HB.out]; exact zc_one s)
  obtain ⟨E, hE⟩ : ∃ E, E = pic s zc := ⟨_, rfl⟩
  rw [← hE] at HB
  have HEE := Lib.hid hE
  clear hZ hE hs
  go_enter Try.func53, Try.ntmps53
  go_wp2_with (first | fail | (refine wpList_store_row rfl 33 (.tmp 6) (.tmp 10) rfl (w.heap.size + 1) (Z.setIfInBounds 0 (Value.int .i64 s)) rfl rfl 33 Z (h2_1 _ _ _) HE2.out HZ2.out H2.out ?_; rw [setRow_al2, HB.out]))
  have GG : Hid (((w.alloc (.cells Z 33)).alloc (.cells E 33)).heap[w.heap.size + 1]? = some (.cells E 33 (0, 0))) := Lib.hid (h2_1 _ _ _)
  have GZ : Hid (((w.alloc (.cells Z 33)).alloc (.cells E 33)).heap[w.heap.size]? = some (.cells Z 33 (0, 0))) := Lib.hid (h2_0 _ _ _)
  have BB : Hid (Below w.heap.size w ((w.alloc (.cells Z 33)).alloc (.cells E 33))) := Lib.hid (below_al2 _ _ _)
  generalize (w.alloc (.cells Z 33)).alloc (.cells E 33) = V at *
  clear hz37 hne HE2 HZ2 H2
  go_loopw [12] (fun i wr => ∃ (y : Nat) (C : Array Value), y ≤ s ∧ i = .int .i64 y ∧ Hid (C = pic s (gf F (s * y))) ∧ Hid (wr.heap[w.heap.size + 1]? = some (.cells C 33 (0, 0))) ∧ Hid (wr.heap[w.heap.size]? = some (.cells Z 33 (0, 0))) ∧ Hid (Below w.heap.size w wr)) (fun i _ => s - (intOf i).toNat)
  case atStart => exact ⟨0, E, by omega, rfl, Lib.hid (by rw [HEE.out, Nat.mul_zero, gf_zero]), GG, GZ, BB⟩
  case round =>
    obtain ⟨y, C, hy, rfl, HC, G, Z0, B⟩ := hrel
    by_cases hlt : y < s
    · have hdy : decide ((y : Int) < (s : Int)) = true := by simp; omega
      go_wp2
      go_loopw [16] (fun i wr => ∃ (x : Nat) (D : Array Value), x ≤ s ∧ i = .int .i64 x ∧ Hid (D = pic s (gf F (s * y + x))) ∧ Hid (wr.heap[w.heap.size + 1]? = some (.cells D 33 (0, 0))) ∧ Hid (wr.heap[w.heap.size]? = some (.cells Z 33 (0, 0))) ∧ Hid (Below w.heap.size w wr)) (fun i _ => s - (intOf i).toNat)
      case atStart => exact ⟨0, C, by omega, rfl, HC, G, Z0, B⟩
      case round =>
        obtain ⟨x, D, hx, rfl, HD, G, Z0, B⟩ := hrel
        by_cases hlt2 : x < s
        · have hdx : decide ((x : Int) < (s : Int)) = true := by simp; omega
          obtain ⟨hk, hk'⟩ := HPL.out y x hlt hlt2
          have hw1 : IntKind.i64.wrap ((s : Int) * (y : Int)) = ((s * y : Nat) : Int) := by rw [← Int.natCast_mul]; exact IntWalk.i64_in _ (by omega)
          have HRR := Lib.hid (HR.out y x wr hlt hlt2 B.out)
          have hold0 : Hid (D[1 + (s * y + x)]? = some (.complex .f32 0 0)) := Lib.hid (by rw [HD.out]; exact gf_old s F (s * y + x) hk)
          have HD2 : Hid (D.setIfInBounds (1 + (s * y + x)) (.complex .f32 (F (s * y + x)).1 (F (s * y + x)).2) = pic s (gf F (s * y + x + 1))) := Lib.hid (by rw [HD.out]; exact gf_set s F _ hk)
          clear HD
          generalize s * y = p at *
          have hw2 : IntKind.i64.wrap ((p : Int) + (x : Int)) = ((p + x : Nat) : Int) := by rw [Int.natCast_add]; exact IntWalk.i64_in _ (by omega)
          have hq : ((p + x : Nat) : Int) < 64 := by omega
          have HQ := Lib.hid (show p + x + 1 = p + (x + 1) by omega)
          generalize hkk : p + x = k at *
          go_wp2_with (go_at_call 79; fail)
          refine HRR.out.mono ?_
          rintro e w1 ⟨rfl, b1⟩
          have G1 : Hid (w1.heap[w.heap.size + 1]? = some (.cells D 33 (0, 0))) := Lib.hid (by rw [b1.block _ (Array.getElem?_eq_some_iff.1 G.out).1]; exact G.out)
          have Z1 : Hid (w1.heap[w.heap.size]? = some (.cells Z 33 (0, 0))) := Lib.hid (by rw [b1.block _ (Array.getElem?_eq_some_iff.1 Z0.out).1]; exact Z0.out)
          have B1 : Hid (Below w.heap.size w w1) := Lib.hid (B.out.trans (b1.mono B.out.size))
          clear b1 G Z0 B
          have hold : w1.cell? ⟨w.heap.size + 1, 1 + k, none⟩ = some (.complex .f32 0 0) := by rw [cell_of_row _ _ _ _ _ _ G1.out]; exact hold0.out
          have hfree : w1.frozen? ⟨w.heap.size + 1, 1 + k, none⟩ = false := frozen_of_row _ _ _ _ _ G1.out
          go_wp2
          exact ⟨⟨x + 1, _, by omega, by go_num, Lib.hid (by rw [← HQ.out]; exact HD2.out), Lib.hid (heap_setCell_same _ _ _ _ _ _ G1.out), Lib.hid (by rw [heap_setCell_other _ _ _ _ (by show w.heap.size ≠ w.heap.size + 1; omega)]; exact Z1.out), Lib.hid (B1.out.setCell (by show w.heap.size ≤ w.heap.size + 1; omega) _)⟩, by simp [intOf]; omega⟩
        · obtain rfl : x = s := by omega
          go_wp2
          exact ⟨⟨y + 1, D, by omega, by go_num, Lib.hid (by rw [HD.out, show x * (y + 1) = x * y + x by rw [Nat.mul_succ]]), G, Z0, B⟩, by simp [intOf]; omega⟩
    · obtain rfl : y = s := by omega
      have HCI : Hid ((Try.prog.info? 33).map (·.size) = some C.size) := Lib.hid (by rw [HC.out, HFW.out.1]; exact HS37.out)
      have HZC : Hid (Z.size = C.size) := Lib.hid (by rw [HC.out, HFW.out.1]; exact HZ37.out)
      have HC1 : Hid (C.all (·.oneCell') = true) := Lib.hid (by rw [HC.out]; exact finW_one HFW.out)
      have HFC : Hid (FinW y C) := Lib.hid (by rw [HC.out]; exact HFW.out)
      have HLT : Hid (w.heap.size < wr.heap.size) := Lib.hid (Array.getElem?_eq_some_iff.1 Z0.out).1
      clear HR HPL HB HEE HFW HS37 HZ37
      go_wp2_with (first | fail | (refine wpList_load_row rfl 33 (.tmp 6) rfl (w.heap.size + 1) rfl 33 C (0, 0) _ G.out Try.underlying33 rfl HCI.out ?_))
      refine (finite_wave y C HFC.out wr).mono ?_
      rintro e w1 ⟨rfl, b1⟩
      have HG1 : Hid (w1.heap[w.heap.size]? = some (.cells Z 33)) := Lib.hid (by rw [b1.block _ HLT.out]; exact Z0.out)
      have HB3 : Hid (Below w.heap.size w w1) := Lib.hid (B.out.trans (b1.mono B.out.size))
      clear b1 Z0 G HLT B
      go_wp2_with (first | fail | (refine wpList_store_row rfl 33 (.tmp 4) (.tmp 34) rfl w.heap.size C rfl rfl 33 Z HG1.out HCI.out HZC.out HC1.out ?_))
      refine bodyPost_ret (v := .tuple #[.agg C, .int .i64 0]) (results_row_tmp (fn := Try.f53) (p := 4) (u := 5) (ty := 33) rfl _ _ w.heap.size 33 C (0, 0) _ rfl (setRow_heap _ _ _ _ _ _ HG1.out) Try.underlying33 rfl HCI.out) rfl ⟨by rw [HC.out], ?_⟩
      exact below_setRow HB3.out (Nat.le_refl _) _

set_option maxRecDepth 100000 in
set_option maxHeartbeats 400000 in
theorem rule_Wo (s y x b N cap : Nat) (L : List Int) (hs : side s = true) (hy : y < s) (hx : x < s) (hN : s * s = N) (ph pn : Addr) (w : World) (ch : w.cell? ph = some (.slice (some ⟨b, 0, none⟩) N cap)) (cn : w.cell? pn = some (.int .i64 s)) (cx : w.cell? ⟨b, s * y + x, none⟩ = some (.int .i64 (L.getD (s * y + x) 0))) :
    Calls Try.prog 79 #[.int .i64 y, .int .i64 x, .pointer (some ph), .pointer (some pn)] w fun e w' => e = .returned (.complex .f32 (cellWo L (s * y + x)).1 (cellWo L (s * y + x)).2) ∧ Below w.heap.size w w' := by
  obtain ⟨hk, hk'⟩ := place_lt s y x hs hy hx
  have hlt : s * y + x < N := by
    rw [← hN]
    have h1 : s * (y + 1) ≤ s * s := Nat.mul_le_mul_left _ hy
    rw [Nat.mul_succ] at h1
    omega
  have hw1 : IntKind.i64.wrap ((s : Int) * (y : Int)) = ((s * y : Nat) : Int) := by rw [← Int.natCast_mul]; exact IntWalk.i64_in _ (by omega)
  have HPH := Lib.hid (impl_phase (L.getD (s * y + x) 0))
  have HF : Hid (cellWo L (s * y + x) = (tre (L.getD (s * y + x) 0 % 64).toNat, tim (L.getD (s * y + x) 0 % 64).toNat)) := Lib.hid rfl
  generalize cellWo L (s * y + x) = Fc at *
  generalize (L.getD (s * y + x) 0 % 64).toNat = j at *
  generalize L.getD (s * y + x) 0 = h at *
  clear hN
  generalize s * y = p at *
  have hw2 : IntKind.i64.wrap ((p : Int) + (x : Int)) = ((p + x : Nat) : Int) := by rw [Int.natCast_add]; exact IntWalk.i64_in _ (by omega)
  have hq0 : (0 : Int) ≤ ((p + x : Nat) : Int) := by omega
  have hq : ((p + x : Nat) : Int) < (N : Int) := by omega
  clear hk hk' hlt
  generalize hkk : p + x = k at *
  clear hkk
  go_enter Try.func79, Try.ntmps79
  go_wp2_with fail
  refine (HPH.out _).mono ?_
  rintro e w' ⟨rfl, hw'⟩
  rw [← hw']
  clear hw' w' HPH
  go_wp2_with fail
  go_ret
  exact ⟨by rw [HF.out]; rfl, Below.refl _ _⟩

theorem below_a3w (w : World) (A B C : Obj) : Below w.heap.size w (((w.alloc A).alloc B).alloc C) :=
  (((Below.refl _ _).alloc (Nat.le_refl _) _).alloc (by rw [size_al]; omega) _).alloc (by rw [size_al, size_al]; omega) _

set_option maxRecDepth 100000 in
set_option maxHeartbeats 800000 in
theorem implWo_no (n : Int) (L : List Int) (h0 : isMap n L = false) : Waves 39 n L 0 zc 1 := by
  intro hn v w hO
  obtain ⟨a, cap, rfl, hC⟩ := hO.came
  have hz37 := (zero_of_info info37').1
  have HS37 := Lib.hid (zero_of_info info37').2
  have HZ37 : Hid ((pic 0 zc).size = 65) := Lib.hid (pic_size 0 zc zc_size)
  have HZ1 := Lib.hid (zc_one 0)
  have hne := pic_ne
  generalize pic 0 zc = Z at *
  have HZI : Hid ((Try.prog.info? 33).map (·.size) = some Z.size) := Lib.hid (by rw [HZ37.out]; exact HS37.out)
  have HI := Lib.hid (implIs_any n a L.length cap L _ (hC.below (below_a3w w (.cells #[.int .i64 n] 2) (.cells #[.slice a L.length cap] 24) (.cells Z 33)) (Nat.le_refl _)) hn)
  rw [h0] at HI
  clear hC hO h0
  go_enter Try.func39, Try.ntmps39
  go_wp2_with fail
  refine HI.out.mono ?_
  rintro e w' ⟨rfl, rfl⟩
  go_wp2_with (refine wpList_store_row rfl 33 (.tmp 4) (.tmp 10) rfl (w.heap.size + 1 + 1) Z rfl rfl 33 Z (h3_2 w (.cells #[.int .i64 n] 2) (.cells #[.slice a L.length cap] 24) (.cells Z 33)) HZI.out rfl HZ1.out ?_)
  refine bodyPost_ret (v := .tuple #[.agg Z, .int .i64 1]) (results_row_tmp (fn := Try.f39) (p := 4) (u := 5) (ty := 33) rfl _ _ (w.heap.size + 1 + 1) 33 Z (0, 0) _ rfl (setRow_heap _ _ _ _ _ _ (h3_2 w (.cells #[.int .i64 n] 2) (.cells #[.slice a L.length cap] 24) (.cells Z 33))) Try.underlying33 rfl HZI.out) rfl ⟨rfl, ?_⟩
  exact below_setRow (below_a3w w _ _ _) (by omega) _

set_option maxRecDepth 100000 in
set_option maxHeartbeats 2000000 in
theorem implWo_yes (s : Nat) (L : List Int) (h0 : isMap s L = true) : Waves 39 s L s (gf (cellWo L) (s * s)) 0 := by
  intro hn v w hO
  have hs := isMap_side h0
  have hlen : L.length = s * s := by have := isMap_len h0; rw [← Int.natCast_mul] at this; omega
  obtain ⟨b, cap, rfl, _, hb⟩ := hO.form (isMap_pos h0)
  obtain ⟨a', cap', e', hC⟩ := hO.came
  cases e'
  have hz37 := (zero_of_info info37').1
  have HS37 := Lib.hid (zero_of_info info37').2
  have HZ37 : Hid ((pic 0 zc).size = 65) := Lib.hid (pic_size 0 zc zc_size)
  have hCell : ∀ i, i < L.length → w.cell? ⟨b, i, none⟩ = some (.int .i64 (L.getD i 0)) := fun i hi => hO.cell i hi
  have HFW : Hid (FinW s (pic s (gf (cellWo L) (s * s)))) := Lib.hid (gf_fin s _ (cellWo_fin L) (s * s))
  have HB : Hid (∀ (z : World) (gh gn : Nat), Below w.heap.size w z → z.cell? ⟨gh, 0, none⟩ = some (.slice (some ⟨b, 0, none⟩) L.length cap) → z.cell? ⟨gn, 0, none⟩ = some (.int .i64 s) → Calls Try.prog 53 #[.int .i64 s, .func (.func 79) #[] #[.pointer (some ⟨gh, 0, none⟩), .pointer (some ⟨gn, 0, none⟩)]] z fun e w' =>
      e = .returned (.tuple #[.agg (pic s (gf (cellWo L) (s * s))), .int .i64 0]) ∧ Below z.heap.size z w') := Lib.hid fun z gh gn hz qh qn =>
    build2_Wo s hs (cellWo L) (cellWo_fin L) ⟨gh, 0, none⟩ ⟨gn, 0, none⟩ z fun y x u hy hx hu =>
      rule_Wo s y x b L.length cap L hs hy hx hlen.symm ⟨gh, 0, none⟩ ⟨gn, 0, none⟩ u (by rw [hu.cell (World.block_lt_of_cell? z _ qh)]; exact qh) (by rw [hu.cell (World.block_lt_of_cell? z _ qn)]; exact qn) (by
        have hlt : s * y + x < L.length := by
          rw [hlen]
          have h1 : s * (y + 1) ≤ s * s := Nat.mul_le_mul_left _ hy
          rw [Nat.mul_succ] at h1
          omega
        rw [hu.cell (p := ⟨b, s * y + x, none⟩) (show b < z.heap.size by have := hz.size; omega), hz.cell (p := ⟨b, s * y + x, none⟩) hb]
        exact hCell _ hlt)
  generalize pic s (gf (cellWo L) (s * s)) = G at *
  generalize pic 0 zc = Z at *
  have HFI : Hid ((Try.prog.info? 33).map (·.size) = some G.size) := Lib.hid (by rw [HFW.out.1]; exact HS37.out)
  have HZF : Hid (Z.size = G.size) := Lib.hid (by rw [HFW.out.1]; exact HZ37.out)
  have HF1 := Lib.hid (finW_one HFW.out)
  have HI := Lib.hid (implIs_any s (some ⟨b, 0, none⟩) L.length cap L _ (hC.below (below_a3w w (.cells #[.int .i64 s] 2) (.cells #[.slice (some ⟨b, 0, none⟩) L.length cap] 24) (.cells Z 33)) (Nat.le_refl _)) hn)
  rw [h0] at HI
  clear hC hO h0 hlen hs hn hCell hb
  go_enter Try.func39, Try.ntmps39
  go_wp2_with fail
  refine HI.out.mono ?_
  rintro e w' ⟨rfl, rfl⟩
  go_wp2_with (go_at_call 53; fail)
  refine (HB.out _ (w.heap.size + 1) w.heap.size (below_a3w w _ _ _) (by rw [cell_of_row _ _ _ _ _ _ (h3_1 w _ _ _)]; rfl) (by rw [cell_of_row _ _ _ _ _ _ (h3_0 w _ _ _)]; rfl)).mono ?_
  rintro e w1 ⟨rfl, b1⟩
  have G1 : Hid (w1.heap[w.heap.size + 1 + 1]? = some (.cells Z 33)) := Lib.hid (by rw [b1.block _ (Array.getElem?_eq_some_iff.1 (h3_2 w (.cells #[.int .i64 s] 2) (.cells #[.slice (some ⟨b, 0, none⟩) L.length cap] 24) (.cells Z 33))).1]; exact h3_2 w (.cells #[.int .i64 s] 2) (.cells #[.slice (some ⟨b, 0, none⟩) L.length cap] 24) (.cells Z 33))
  have B3 : Hid (Below w.heap.size w w1) := Lib.hid ((below_a3w w _ _ _).trans (b1.mono (below_a3w w _ _ _).size))
  clear b1 HB
  go_wp2_with (refine wpList_store_row rfl 33 (.tmp 4) (.tmp 14) rfl (w.heap.size + 1 + 1) G rfl rfl 33 Z G1.out HFI.out HZF.out HF1.out ?_)
  refine bodyPost_ret (v := .tuple #[.agg G, .int .i64 0]) (results_row_tmp (fn := Try.f39) (p := 4) (u := 5) (ty := 33) rfl _ _ (w.heap.size + 1 + 1) 33 G (0, 0) _ rfl (setRow_heap _ _ _ _ _ _ G1.out) Try.underlying33 rfl HFI.out) rfl ⟨rfl, ?_⟩
  exact below_setRow B3.out (by omega) _

/-- the answer that is asked: side, cells, code -/
def ansWo (n : Int) (L : List Int) : Int × Array Value × Int := if isMap n L then (n, gf (cellWo L) (n.toNat * n.toNat), 0) else (0, zc, 1)
theorem ansWo_yes (n : Int) (L : List Int) (h : isMap n L = true) : ansWo n L = (n, gf (cellWo L) (n.toNat * n.toNat), 0) := by
  unfold ansWo; rw [if_pos h]
theorem ansWo_no (n : Int) (L : List Int) (h : isMap n L = false) : ansWo n L = (0, zc, 1) := by
  unfold ansWo; rw [if_neg (by rw [h]; decide)]
theorem ansWo_cells (n : Int) (L : List Int) : Cells (ansWo n L).2.1 := by
  cases h : isMap n L
  · rw [ansWo_no n L h]; exact zc_cells3
  · rw [ansWo_yes n L h]; exact gf_cells (cellWo L) (cellWo_fin L) _
theorem ansWo_one (n : Int) (L : List Int) : (pic (ansWo n L).1 (ansWo n L).2.1).all (·.oneCell') = true := by
  cases h : isMap n L
  · rw [ansWo_no n L h]; exact zc_one 0
  · rw [ansWo_yes n L h]; exact gf_wav_one _ _ _
theorem specWo (n : Int) (L : List Int) : Waves 38 n L (ansWo n L).1 (ansWo n L).2.1 (ansWo n L).2.2 := by
  cases h : isMap n L
  · rw [ansWo_no n L h]; exact specWo_no n L h
  · rw [ansWo_yes n L h]
    obtain ⟨s, rfl, _⟩ := isMap_nat h
    exact specWo_yes s L h
theorem implWo (n : Int) (L : List Int) : Waves 39 n L (ansWo n L).1 (ansWo n L).2.1 (ansWo n L).2.2 := by
  cases h : isMap n L
  · rw [ansWo_no n L h]; exact implWo_no n L h
  · rw [ansWo_yes n L h]
    obtain ⟨s, rfl, _⟩ := isMap_nat h
    exact implWo_yes s L h
end Go.Proofs.Ytlkgdfednejhiaa
