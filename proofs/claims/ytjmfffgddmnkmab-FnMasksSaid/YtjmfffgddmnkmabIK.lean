/- The program's complement of a mask, and what is behind a mask. Condition: 64 complex numbers each. -/
import Derived.Test.YtjmfffgddmnkmabMk
import Derived.Test.YtjmfffgddmnkmabM21
import Derived.Test.YtjmfffgddmnkmabLay
import Derived.Deep.QuietTactic
import Derived.BigQuiet
import Derived.Deep.CutBlock
import Derived.Deep.DeepCutAuto
namespace Go.Proofs.Ytjmfffgddmnkmab
open Go Go.RowKit

set_option maxRecDepth 100000 in
set_option maxHeartbeats 1000000 in
theorem build2_CO (s : Nat) (hs : side s = true) (F : Nat → Nat × Nat) (hF : ∀ i, (fin (F i).1 && fin (F i).2) = true) (pm : Addr) (w : World)
    (hR : ∀ (y x : Nat) (v : World), y < s → x < s → Below w.heap.size w v → Calls Try.prog 78 #[.int .i64 y, .int .i64 x, .pointer (some pm)] v fun e w' =>
      e = .returned (.complex .f32 (F (s * y + x)).1 (F (s * y + x)).2) ∧ Below v.heap.size v w') :
    Calls Try.prog 77 #[.int .i64 s, .func (.func 78) #[] #[.pointer (some pm)]] w fun e w' =>
      e = .returned (.tuple #[.agg (pic s (gf F (s * s))), .int .i64 0]) ∧ Below w.heap.size w w' := by
  have hz37 := (zero_of_info info37').1
  have HS37 := Lib.hid (zero_of_info info37').2
  have HZ37 : Hid ((pic 0 zc).size = 65) := Lib.hid (pic_size 0 zc zc_size)
  have hne := pic_ne
  have HB := Lib.hid (pic_set0 0 s zc)
  have HR := Lib.hid hR
  have HFW : Hid (FinW s (pic s (gf F (s * s)))) := Lib.hid (gf_fin s F hF (s * s))
  have HPL : Hid (∀ y x, y < s → x < s → s * y + x < 64 ∧ s * y ≤ 56) := Lib.hid fun y x hy hx => place_lt s y x hs hy hx
  have hs8 : s ≤ 8 := by rcases side_nat s hs with rfl | rfl | rfl | rfl <;> omega
  clear hR hF
  obtain ⟨Z, hZ⟩ : ∃ Z, Z = pic 0 zc := ⟨_, rfl⟩
  rw [← hZ] at hz37 HZ37 hne HB
  have HE2 : Hid ((Try.prog.info? 30).map (·.size) = some (Z.setIfInBounds 0 (Value.int .i64 s)).size) := Lib.hid (by rw [HB.out, pic_size _ _ zc_size]; exact HS37.out)
  have HZ2 : Hid (Z.size = (Z.setIfInBounds 0 (Value.int .i64 s)).size) := Lib.hid (by simp)
  have H2 : Hid ((Z.setIfInBounds 0 (Value.int .i64 s)).all (·.oneCell') = true) := Lib.hid (by rw [HB.out]; exact zc_one s)
  obtain ⟨E, hE⟩ : ∃ E, E = pic s zc := ⟨_, rfl⟩
  rw [← hE] at HB
  have HEE := Lib.hid hE
  clear hZ hE hs
  go_enter Try.func77, Try.ntmps77
  go_wp2_with (first | fail | (refine wpList_store_row rfl 30 (.tmp 6) (.tmp 10) rfl (w.heap.size + 1) (Z.setIfInBounds 0 (Value.int .i64 s)) rfl rfl 30 Z (h2_1 _ _ _) HE2.out HZ2.out H2.out ?_; rw [setRow_al2, HB.out]))
  have GG : Hid (((w.alloc (.cells Z 30)).alloc (.cells E 30)).heap[w.heap.size + 1]? = some (.cells E 30 (0, 0))) := Lib.hid (h2_1 _ _ _)
  have GZ : Hid (((w.alloc (.cells Z 30)).alloc (.cells E 30)).heap[w.heap.size]? = some (.cells Z 30 (0, 0))) := Lib.hid (h2_0 _ _ _)
  have BB : Hid (Below w.heap.size w ((w.alloc (.cells Z 30)).alloc (.cells E 30))) := Lib.hid (below_al2 _ _ _)
  generalize (w.alloc (.cells Z 30)).alloc (.cells E 30) = V at *
  clear hz37 hne HE2 HZ2 H2
  go_loopw [12] (fun i wr => ∃ (y : Nat) (C : Array Value), y ≤ s ∧ i = .int .i64 y ∧ Hid (C = pic s (gf F (s * y))) ∧ Hid (wr.heap[w.heap.size + 1]? = some (.cells C 30 (0, 0))) ∧ Hid (wr.heap[w.heap.size]? = some (.cells Z 30 (0, 0))) ∧ Hid (Below w.heap.size w wr)) (fun i _ => s - (intOf i).toNat)
  case atStart => exact ⟨0, E, by omega, rfl, Lib.hid (by rw [HEE.out, Nat.mul_zero, gf_zero]), GG, GZ, BB⟩
  case round =>
    obtain ⟨y, C, hy, rfl, HC, G, Z0, B⟩ := hrel
    by_cases hlt : y < s
    · have hdy : decide ((y : Int) < (s : Int)) = true := by simp; omega
      go_wp2
      go_loopw [16] (fun i wr => ∃ (x : Nat) (D : Array Value), x ≤ s ∧ i = .int .i64 x ∧ Hid (D = pic s (gf F (s * y + x))) ∧ Hid (wr.heap[w.heap.size + 1]? = some (.cells D 30 (0, 0))) ∧ Hid (wr.heap[w.heap.size]? = some (.cells Z 30 (0, 0))) ∧ Hid (Below w.heap.size w wr)) (fun i _ => s - (intOf i).toNat)
      case atStart => exact ⟨0, C, by omega, rfl, HC, G, Z0, B⟩
      case round =>
        obtain ⟨x, D, hx, rfl, HD, G, Z0, B⟩ := hrel
        by_cases hlt2 : x < s
        · have hdx : decide ((x : Int) < (s : Int)) = true := by simp; omega
          obtain ⟨hk, hk'⟩ := HPL.out y x hlt hlt2
          have hw1 : IntKind.i64.wrap ((s : Int) * (y : Int)) = ((s * y : Nat) : Int) := by rw [← Int.natCast_mul]; exact IntWalk.i64_in _ (by omega)
          have HRR := Lib.hid (HR.out y x wr hlt hlt2 B.out)
          have hold0 : Hid (D[1 + (s * y + x)]? = some (.complex .f32 0 0)) := Lib.hid (by rw [HD.out]; exact gf_old s F (s * y + x) hk)
          have HD2 : Hid (D.setIfInBounds (1 + (s * y + x)) (.complex .f32 (F (s * y + x)).1 (F (s * y + x)).2) = pic s (gf F (s * y + x + 1))) := Lib.hid (by rw [HD.out]; exact gf_set s F _ hk)
          clear HD
          generalize s * y = p at *
          have hw2 : IntKind.i64.wrap ((p : Int) + (x : Int)) = ((p + x : Nat) : Int) := by rw [Int.natCast_add]; exact IntWalk.i64_in _ (by omega)
          have hq : ((p + x : Nat) : Int) < 64 := by omega
          have HQ := Lib.hid (show p + x + 1 = p + (x + 1) by omega)
          generalize hkk : p + x = k at *
          go_wp2_with (go_at_call 78; fail)
          refine HRR.out.mono ?_
          rintro e w1 ⟨rfl, b1⟩
          have G1 : Hid (w1.heap[w.heap.size + 1]? = some (.cells D 30 (0, 0))) := Lib.hid (by rw [b1.block _ (Array.getElem?_eq_some_iff.1 G.out).1]; exact G.out)
          have Z1 : Hid (w1.heap[w.heap.size]? = some (.cells Z 30 (0, 0))) := Lib.hid (by rw [b1.block _ (Array.getElem?_eq_some_iff.1 Z0.out).1]; exact Z0.out)
          have B1 : Hid (Below w.heap.size w w1) := Lib.hid (B.out.trans (b1.mono B.out.size))
          clear b1 G Z0 B
          have hold : w1.cell? ⟨w.heap.size + 1, 1 + k, none⟩ = some (.complex .f32 0 0) := by rw [cell_of_row _ _ _ _ _ _ G1.out]; exact hold0.out
          have hfree : w1.frozen? ⟨w.heap.size + 1, 1 + k, none⟩ = false := frozen_of_row _ _ _ _ _ G1.out
          go_wp2
          exact ⟨⟨x + 1, _, by omega, by go_num, Lib.hid (by rw [← HQ.out]; exact HD2.out), Lib.hid (heap_setCell_same _ _ _ _ _ _ G1.out), Lib.hid (by rw [heap_setCell_other _ _ _ _ (by show w.heap.size ≠ w.heap.size + 1; omega)]; exact Z1.out), Lib.hid (B1.out.setCell (by show w.heap.size ≤ w.heap.size + 1; omega) _)⟩, by simp [intOf]; omega⟩
        · obtain rfl : x = s := by omega
          go_wp2
          exact ⟨⟨y + 1, D, by omega, by go_num, Lib.hid (by rw [HD.out, show x * (y + 1) = x * y + x by rw [Nat.mul_succ]]), G, Z0, B⟩, by simp [intOf]; omega⟩
    · obtain rfl : y = s := by omega
      have HCI : Hid ((Try.prog.info? 30).map (·.size) = some C.size) := Lib.hid (by rw [HC.out, HFW.out.1]; exact HS37.out)
      have HZC : Hid (Z.size = C.size) := Lib.hid (by rw [HC.out, HFW.out.1]; exact HZ37.out)
      have HC1 : Hid (C.all (·.oneCell') = true) := Lib.hid (by rw [HC.out]; exact finW_one HFW.out)
      have HFC : Hid (FinW y C) := Lib.hid (by rw [HC.out]; exact HFW.out)
      have HLT : Hid (w.heap.size < wr.heap.size) := Lib.hid (Array.getElem?_eq_some_iff.1 Z0.out).1
      clear HR HPL HB HEE HFW HS37 HZ37
      go_wp2_with (first | fail | (refine wpList_load_row rfl 30 (.tmp 6) rfl (w.heap.size + 1) rfl 30 C (0, 0) _ G.out Try.underlying30 rfl HCI.out ?_))
      refine (finite_wave y C HFC.out wr).mono ?_
      rintro e w1 ⟨rfl, b1⟩
      have HG1 : Hid (w1.heap[w.heap.size]? = some (.cells Z 30)) := Lib.hid (by rw [b1.block _ HLT.out]; exact Z0.out)
      have HB3 : Hid (Below w.heap.size w w1) := Lib.hid (B.out.trans (b1.mono B.out.size))
      clear b1 Z0 G HLT B
      go_wp2_with (first | fail | (refine wpList_store_row rfl 30 (.tmp 4) (.tmp 34) rfl w.heap.size C rfl rfl 30 Z HG1.out HCI.out HZC.out HC1.out ?_))
      refine bodyPost_ret (v := .tuple #[.agg C, .int .i64 0]) (results_row_tmp (fn := Try.f77) (p := 4) (u := 5) (ty := 30) rfl _ _ w.heap.size 30 C (0, 0) _ rfl (setRow_heap _ _ _ _ _ _ HG1.out) Try.underlying30 rfl HCI.out) rfl ⟨by rw [HC.out], ?_⟩
      exact below_setRow HB3.out (Nat.le_refl _) _

set_option maxRecDepth 100000 in
set_option maxHeartbeats 1000000 in
theorem build2_BE (s : Nat) (hs : side s = true) (F : Nat → Nat × Nat) (hF : ∀ i, (fin (F i).1 && fin (F i).2) = true) (pm pw : Addr) (w : World)
    (hR : ∀ (y x : Nat) (v : World), y < s → x < s → Below w.heap.size w v → Calls Try.prog 86 #[.int .i64 y, .int .i64 x, .pointer (some pm), .pointer (some pw)] v fun e w' =>
      e = .returned (.complex .f32 (F (s * y + x)).1 (F (s * y + x)).2) ∧ Below v.heap.size v w') :
    Calls Try.prog 77 #[.int .i64 s, .func (.func 86) #[] #[.pointer (some pm), .pointer (some pw)]] w fun e w' =>
      e = .returned (.tuple #[.agg (pic s (gf F (s * s))), .int .i64 0]) ∧ Below w.heap.size w w' := by
  have hz37 := (zero_of_info info37').1
  have HS37 := Lib.hid (zero_of_info info37').2
  have HZ37 : Hid ((pic 0 zc).size = 65) := Lib.hid (pic_size 0 zc zc_size)
  have hne := pic_ne
  have HB := Lib.hid (pic_set0 0 s zc)
  have HR := Lib.hid hR
  have HFW : Hid (FinW s (pic s (gf F (s * s)))) := Lib.hid (gf_fin s F hF (s * s))
  have HPL : Hid (∀ y x, y < s → x < s → s * y + x < 64 ∧ s * y ≤ 56) := Lib.hid fun y x hy hx => place_lt s y x hs hy hx
  have hs8 : s ≤ 8 := by rcases side_nat s hs with rfl | rfl | rfl | rfl <;> omega
  clear hR hF
  obtain ⟨Z, hZ⟩ : ∃ Z, Z = pic 0 zc := ⟨_, rfl⟩
  rw [← hZ] at hz37 HZ37 hne HB
  have HE2 : Hid ((Try.prog.info? 30).map (·.size) = some (Z.setIfInBounds 0 (Value.int .i64 s)).size) := Lib.hid (by rw [HB.out, pic_size _ _ zc_size]; exact HS37.out)
  have HZ2 : Hid (Z.size = (Z.setIfInBounds 0 (Value.int .i64 s)).size) := Lib.hid (by simp)
  have H2 : Hid ((Z.setIfInBounds 0 (Value.int .i64 s)).all (·.oneCell') = true) := Lib.hid (by rw [HB.out]; exact zc_one s)
  obtain ⟨E, hE⟩ : ∃ E, E = pic s zc := ⟨_, rfl⟩
  rw [← hE] at HB
  have HEE := Lib.hid hE
  clear hZ hE hs
  go_enter Try.func77, Try.ntmps77
  go_wp2_with (first | fail | (refine wpList_store_row rfl 30 (.tmp 6) (.tmp 10) rfl (w.heap.size + 1) (Z.setIfInBounds 0 (Value.int .i64 s)) rfl rfl 30 Z (h2_1 _ _ _) HE2.out HZ2.out H2.out ?_; rw [setRow_al2, HB.out]))
  have GG : Hid (((w.alloc (.cells Z 30)).alloc (.cells E 30)).heap[w.heap.size + 1]? = some (.cells E 30 (0, 0))) := Lib.hid (h2_1 _ _ _)
  have GZ : Hid (((w.alloc (.cells Z 30)).alloc (.cells E 30)).heap[w.heap.size]? = some (.cells Z 30 (0, 0))) := Lib.hid (h2_0 _ _ _)
  have BB : Hid (Below w.heap.size w ((w.alloc (.cells Z 30)).alloc (.cells E 30))) := Lib.hid (below_al2 _ _ _)
  generalize (w.alloc (.cells Z 30)).alloc (.cells E 30) = V at *
  clear hz37 hne HE2 HZ2 H2
  go_loopw [12] (fun i wr => ∃ (y : Nat) (C : Array Value), y ≤ s ∧ i = .int .i64 y ∧ Hid (C = pic s (gf F (s * y))) ∧ Hid (wr.heap[w.heap.size + 1]? = some (.cells C 30 (0, 0))) ∧ Hid (wr.heap[w.heap.size]? = some (.cells Z 30 (0, 0))) ∧ Hid (Below w.heap.size w wr)) (fun i _ => s - (intOf i).toNat)
  case atStart => exact ⟨0, E, by omega, rfl, Lib.hid (by rw [HEE.out, Nat.mul_zero, gf_zero]), GG, GZ, BB⟩
  case round =>
    obtain ⟨y, C, hy, rfl, HC, G, Z0, B⟩ := hrel
    by_cases hlt : y < s
    · have hdy : decide ((y : Int) < (s : Int)) = true := by simp; omega
      go_wp2
      go_loopw [16] (fun i wr => ∃ (x : Nat) (D : Array Value), x ≤ s ∧ i = .int .i64 x ∧ Hid (D = pic s (gf F (s * y + x))) ∧ Hid (wr.heap[w.heap.size + 1]? = some (.cells D 30 (0, 0))) ∧ Hid (wr.heap[w.heap.size]? = some (.cells Z 30 (0, 0))) ∧ Hid (Below w.heap.size w wr)) (fun i _ => s - (intOf i).toNat)
      case atStart => exact ⟨0, C, by omega, rfl, HC, G, Z0, B⟩
      case round =>
        obtain ⟨x, D, hx, rfl, HD, G, Z0, B⟩ := hrel
        by_cases hlt2 : x < s
        · have hdx : decide ((x : Int) < (s : Int)) = true := by simp; omega
          obtain ⟨hk, hk'⟩ := HPL.out y x hlt hlt2
          have hw1 : IntKind.i64.wrap ((s : Int) * (y : Int)) = ((s * y : Nat) : Int) := by rw [← Int.natCast_mul]; exact IntWalk.i64_in _ (by omega)
          have HRR := Lib.hid (HR.out y x wr hlt hlt2 B.out)
          have hold0 : Hid (D[1 + (s * y + x)]? = some (.complex .f32 0 0)) := Lib.hid (by rw [HD.out]; exact gf_old s F (s * y + x) hk)
          have HD2 : Hid (D.setIfInBounds (1 + (s * y + x)) (.complex .f32 (F (s * y + x)).1 (F (s * y + x)).2) = pic s (gf F (s * y + x + 1))) := Lib.hid (by rw [HD.out]; exact gf_set s F _ hk)
          clear HD
          generalize s * y = p at *
          have hw2 : IntKind.i64.wrap ((p : Int) + (x : Int)) = ((p + x : Nat) : Int) := by rw [Int.natCast_add]; exact IntWalk.i64_in _ (by omega)
          have hq : ((p + x : Nat) : Int) < 64 := by omega
          have HQ := Lib.hid (show p + x + 1 = p + (x + 1) by omega)
          generalize hkk : p + x = k at *
          go_wp2_with (go_at_call 86; fail)
          refine HRR.out.mono ?_
          rintro e w1 ⟨rfl, b1⟩
          have G1 : Hid (w1.heap[w.heap.size + 1]? = some (.cells D 30 (0, 0))) := Lib.hid (by rw [b1.block _ (Array.getElem?_eq_some_iff.1 G.out).1]; exact G.out)
          have Z1 : Hid (w1.heap[w.heap.size]? = some (.cells Z 30 (0, 0))) := Lib.hid (by rw [b1.block _ (Array.getElem?_eq_some_iff.1 Z0.out).1]; exact Z0.out)
          have B1 : Hid (Below w.heap.size w w1) := Lib.hid (B.out.trans (b1.mono B.out.size))
          clear b1 G Z0 B
          have hold : w1.cell? ⟨w.heap.size + 1, 1 + k, none⟩ = some (.complex .f32 0 0) := by rw [cell_of_row _ _ _ _ _ _ G1.out]; exact hold0.out
          have hfree : w1.frozen? ⟨w.heap.size + 1, 1 + k, none⟩ = false := frozen_of_row _ _ _ _ _ G1.out
          go_wp2
          exact ⟨⟨x + 1, _, by omega, by go_num, Lib.hid (by rw [← HQ.out]; exact HD2.out), Lib.hid (heap_setCell_same _ _ _ _ _ _ G1.out), Lib.hid (by rw [heap_setCell_other _ _ _ _ (by show w.heap.size ≠ w.heap.size + 1; omega)]; exact Z1.out), Lib.hid (B1.out.setCell (by show w.heap.size ≤ w.heap.size + 1; omega) _)⟩, by simp [intOf]; omega⟩
        · obtain rfl : x = s := by omega
          go_wp2
          exact ⟨⟨y + 1, D, by omega, by go_num, Lib.hid (by rw [HD.out, show x * (y + 1) = x * y + x by rw [Nat.mul_succ]]), G, Z0, B⟩, by simp [intOf]; omega⟩
    · obtain rfl : y = s := by omega
      have HCI : Hid ((Try.prog.info? 30).map (·.size) = some C.size) := Lib.hid (by rw [HC.out, HFW.out.1]; exact HS37.out)
      have HZC : Hid (Z.size = C.size) := Lib.hid (by rw [HC.out, HFW.out.1]; exact HZ37.out)
      have HC1 : Hid (C.all (·.oneCell') = true) := Lib.hid (by rw [HC.out]; exact finW_one HFW.out)
      have HFC : Hid (FinW y C) := Lib.hid (by rw [HC.out]; exact HFW.out)
      have HLT : Hid (w.heap.size < wr.heap.size) := Lib.hid (Array.getElem?_eq_some_iff.1 Z0.out).1
      clear HR HPL HB HEE HFW HS37 HZ37
      go_wp2_with (first | fail | (refine wpList_load_row rfl 30 (.tmp 6) rfl (w.heap.size + 1) rfl 30 C (0, 0) _ G.out Try.underlying30 rfl HCI.out ?_))
      refine (finite_wave y C HFC.out wr).mono ?_
      rintro e w1 ⟨rfl, b1⟩
      have HG1 : Hid (w1.heap[w.heap.size]? = some (.cells Z 30)) := Lib.hid (by rw [b1.block _ HLT.out]; exact Z0.out)
      have HB3 : Hid (Below w.heap.size w w1) := Lib.hid (B.out.trans (b1.mono B.out.size))
      clear b1 Z0 G HLT B
      go_wp2_with (first | fail | (refine wpList_store_row rfl 30 (.tmp 4) (.tmp 34) rfl w.heap.size C rfl rfl 30 Z HG1.out HCI.out HZC.out HC1.out ?_))
      refine bodyPost_ret (v := .tuple #[.agg C, .int .i64 0]) (results_row_tmp (fn := Try.f77) (p := 4) (u := 5) (ty := 30) rfl _ _ w.heap.size 30 C (0, 0) _ rfl (setRow_heap _ _ _ _ _ _ HG1.out) Try.underlying30 rfl HCI.out) rfl ⟨by rw [HC.out], ?_⟩
      exact below_setRow HB3.out (Nat.le_refl _) _

set_option maxRecDepth 100000 in
set_option maxHeartbeats 1000000 in
theorem rule_CO (s : Nat) (hs : side s = true) (D : Array Value) (hD : Wav s D) (y x : Nat) (hy : y < s) (hx : x < s) (b : Nat) (w : World) (hb : w.heap[b]? = some (.cells D 30 (0, 0))) :
    Calls Try.prog 78 #[.int .i64 y, .int .i64 x, .pointer (some ⟨b, 0, none⟩)] w fun e w' => e = .returned (.complex .f32 (mark (!open_ D (s * y + x))).1 (mark (!open_ D (s * y + x))).2) ∧ Below w.heap.size w w' := by
  have HS37 := Lib.hid (zero_of_info info37').2
  have HDI : Hid ((Try.prog.info? 30).map (·.size) = some D.size) := Lib.hid (by rw [hD.1]; exact HS37.out)
  have HO := Lib.hid (openingAt_any s hs D hD y x hy hx w)
  have HB := Lib.hid hb
  clear hD hb hy hx hs
  generalize open_ D (s * y + x) = o at *
  go_enter Try.func78, Try.ntmps78
  go_wp2_with (first | (refine wpList_load_row rfl 30 (.tmp 2) rfl b rfl 30 D (0, 0) _ HB.out Try.underlying30 rfl HDI.out ?_) | (go_at_call 76; fail))
  refine HO.out.mono ?_
  rintro e w1 ⟨rfl, b1⟩
  have B1 := Lib.hid b1
  clear b1 HO
  go_wp2_with (go_at_call 79; refine (cell_any _ _).mono ?_; rintro e w' ⟨rfl, rfl⟩)
  go_ret
  exact ⟨rfl, B1.out⟩

/-- the cells behind a mask -/
def behF (D E : Array Value) (i : Nat) : Nat × Nat := if open_ E i = true then (reAt D i, imAt D i) else (0, 0)
theorem behF_fin (s : Int) (D E : Array Value) (hD : Wav s D) (h : isWav s D = true) (i : Nat) : (fin (behF D E i).1 && fin (behF D E i).2) = true := by
  unfold behF
  by_cases ho : open_ E i = true
  · rw [if_pos ho]; exact isWav_fin s D hD h i
  · rw [if_neg ho]; decide

set_option maxRecDepth 100000 in
set_option maxHeartbeats 1000000 in
theorem rule_BE (s : Nat) (hs : side s = true) (D E : Array Value) (hD : Wav s D) (hE : Wav s E) (y x : Nat) (hy : y < s) (hx : x < s) (gm gw : Nat) (w : World) (hm : w.heap[gm]? = some (.cells E 30 (0, 0))) (hw : w.heap[gw]? = some (.cells D 30 (0, 0))) :
    Calls Try.prog 86 #[.int .i64 y, .int .i64 x, .pointer (some ⟨gm, 0, none⟩), .pointer (some ⟨gw, 0, none⟩)] w fun e w' => e = .returned (.complex .f32 (behF D E (s * y + x)).1 (behF D E (s * y + x)).2) ∧ Below w.heap.size w w' := by
  have HS37 := Lib.hid (zero_of_info info37').2
  have HEI : Hid ((Try.prog.info? 30).map (·.size) = some E.size) := Lib.hid (by rw [hE.1]; exact HS37.out)
  have HO := Lib.hid (openingAt_any s hs E hE y x hy hx w)
  obtain ⟨hk, hk'⟩ := place_lt s y x hs hy hx
  obtain ⟨m, n, hz⟩ := hD.2.2 _ hk
  obtain ⟨r1, r2⟩ := at_of D _ m n hz
  have hs8 : 1 ≤ s ∧ s ≤ 8 := by rcases side_nat s hs with rfl | rfl | rfl | rfl <;> omega
  have hmul : (s : Int) * (y : Int) = ((s * y : Nat) : Int) := by rw [Int.natCast_mul]
  have HA : Hid (∀ v : World, v.heap[gw]? = some (.cells D 30 (0, 0)) → Calls Try.prog 87 #[.pointer (some ⟨gw, 0, none⟩), .int .i64 y, .int .i64 x] v fun e w' => e = .returned (.complex .f32 m n) ∧ ∃ q, w' = v.drewN q) := Lib.hid fun v hv =>
    at_any gw s D y x (s * y + x) m n hk (by rw [hmul]; exact IntWalk.i64_in _ (by omega)) (by rw [hmul, ← Int.natCast_add]; exact IntWalk.i64_in _ (by omega)) hz hD.2.1 v hv
  have HM := Lib.hid hm
  have HW := Lib.hid hw
  have HF : behF D E (s * y + x) = if open_ E (s * y + x) = true then (m, n) else (0, 0) := by unfold behF; rw [r1, r2]
  rw [HF]
  clear hD hE hm hw hz r1 r2 HF hk hk' hmul hs8 hy hx hs
  cases ho : open_ E (s * y + x)
  · rw [ho] at HO
    clear ho
    go_enter Try.func86, Try.ntmps86
    go_wp2_with (first | (refine wpList_load_row rfl 30 (.tmp 2) rfl gm rfl 30 E (0, 0) _ HM.out Try.underlying30 rfl HEI.out ?_) | (go_at_call 76; fail))
    refine HO.out.mono ?_
    rintro e w1 ⟨rfl, b1⟩
    have B1 := Lib.hid b1
    clear b1 HO
    go_wp2
    go_ret
    exact ⟨rfl, B1.out⟩
  · rw [ho] at HO
    clear ho
    go_enter Try.func86, Try.ntmps86
    go_wp2_with (first | (refine wpList_load_row rfl 30 (.tmp 2) rfl gm rfl 30 E (0, 0) _ HM.out Try.underlying30 rfl HEI.out ?_) | (go_at_call 76; fail))
    refine HO.out.mono ?_
    rintro e w1 ⟨rfl, b1⟩
    have W1 := Lib.hid (show w1.heap[gw]? = some (.cells D 30 (0, 0)) by rw [b1.block _ (Array.getElem?_eq_some_iff.1 HW.out).1]; exact HW.out)
    have B1 := Lib.hid b1
    clear b1 HO
    go_wp2_with (go_at_call 87; fail)
    refine (HA.out _ W1.out).mono ?_
    rintro e w2 ⟨rfl, q, rfl⟩
    go_wp2
    go_ret
    exact ⟨rfl, below_drewN B1.out _⟩

set_option maxRecDepth 100000 in
set_option maxHeartbeats 1000000 in
theorem implComplementOf_no (s : Int) (D : Array Value) (hD : Wav s D) (h1 : isMsk s D = false) (w : World) : Calls Try.prog 22 #[.agg D] w fun e w' => e = .returned (.tuple #[.agg (pic 0 zc), .int .i64 1]) ∧ Below w.heap.size w w' := by
  have hz37 := (zero_of_info info37').1
  have HS37 := Lib.hid (zero_of_info info37').2
  have HZ37 : Hid ((pic 0 zc).size = 65) := Lib.hid (pic_size 0 zc zc_size)
  have HZ1 := Lib.hid (zc_one 0)
  have HZW := Lib.hid (wav_zc 0)
  have hne := pic_ne
  generalize pic 0 zc = Z at *
  have HZI : Hid ((Try.prog.info? 30).map (·.size) = some Z.size) := Lib.hid (by rw [HZ37.out]; exact HS37.out)
  have HDI : Hid ((Try.prog.info? 30).map (·.size) = some D.size) := Lib.hid (by rw [hD.1]; exact HS37.out)
  have HMD := Lib.hid (implIsMask_any s D hD)
  rw [h1] at HMD
  clear hD
  go_enter Try.func22, Try.ntmps22
  go_upto_region 1 with fail
  have L0 := Lib.hid (lay2 w D Z)
  generalize (w.alloc (.cells D 30)).alloc (.cells Z 30) = v at *
  go_wp2_with (first | (refine wpList_load_row rfl 30 (.tmp 1) rfl w.heap.size rfl 30 D (0, 0) _ (L0.out.at 1 rfl) Try.underlying30 rfl HDI.out ?_) | (go_at_call 19; fail))
  refine (HMD.out _).mono ?_
  rintro e w1 ⟨rfl, b1⟩
  have L1 := Lib.hid (L0.out.below b1)
  clear b1 L0
  go_wp2_with (refine wpList_store_row rfl 30 (.tmp 2) (.tmp 7) rfl (w.heap.size + 1) Z rfl rfl 30 Z (L1.out.at 0 rfl) HZI.out (Lib.hid rfl : Hid (Z.size = Z.size)).out HZ1.out ?_)
  refine bodyPost_ret (v := .tuple #[.agg Z, .int .i64 1]) (results_row_tmp (fn := Try.f22) (p := 2) (u := 3) (ty := 30) rfl _ _ (w.heap.size + 1) 30 Z (0, 0) _ rfl (setRow_heap _ _ _ _ _ _ (L1.out.at 0 rfl)) Try.underlying30 rfl HZI.out) rfl ⟨rfl, ?_⟩
  exact below_setRow L1.out.2 (by omega) _

set_option maxRecDepth 100000 in
set_option maxHeartbeats 1000000 in
theorem implComplementOf_yes (s : Nat) (hs : side s = true) (D : Array Value) (hD : Wav s D) (h1 : isMsk s D = true) (w : World) : Calls Try.prog 22 #[.agg D] w fun e w' => e = .returned (.tuple #[.agg (pic s (gf (fun i => mark (!open_ D i)) (s * s))), .int .i64 0]) ∧ Below w.heap.size w w' := by
  have HFW : Hid (FinW s (pic s (gf (fun i => mark (!open_ D i)) (s * s)))) := Lib.hid (gf_fin s _ (fun i => mark_fin _) (s * s))
  have HB : Hid (∀ (v : World) (b : Nat), v.heap[b]? = some (.cells D 30 (0, 0)) → Calls Try.prog 77 #[.int .i64 s, .func (.func 78) #[] #[.pointer (some ⟨b, 0, none⟩)]] v fun e w' =>
      e = .returned (.tuple #[.agg (pic s (gf (fun i => mark (!open_ D i)) (s * s))), .int .i64 0]) ∧ Below v.heap.size v w') := Lib.hid fun v b hb =>
    build2_CO s hs (fun i => mark (!open_ D i)) (fun i => mark_fin _) ⟨b, 0, none⟩ v fun y x z hy hx hz =>
      rule_CO s hs D hD y x hy hx b z (by rw [hz.block _ (Array.getElem?_eq_some_iff.1 hb).1]; exact hb)
  generalize pic s (gf (fun i => mark (!open_ D i)) (s * s)) = G at *
  have hz37 := (zero_of_info info37').1
  have HS37 := Lib.hid (zero_of_info info37').2
  have HZ37 : Hid ((pic 0 zc).size = 65) := Lib.hid (pic_size 0 zc zc_size)
  have HZ1 := Lib.hid (zc_one 0)
  have HZW := Lib.hid (wav_zc 0)
  have hne := pic_ne
  generalize pic 0 zc = Z at *
  have HZI : Hid ((Try.prog.info? 30).map (·.size) = some Z.size) := Lib.hid (by rw [HZ37.out]; exact HS37.out)
  have HDI : Hid ((Try.prog.info? 30).map (·.size) = some D.size) := Lib.hid (by rw [hD.1]; exact HS37.out)
  have HGI : Hid ((Try.prog.info? 30).map (·.size) = some G.size) := Lib.hid (by rw [HFW.out.1]; exact HS37.out)
  have HZG : Hid (Z.size = G.size) := Lib.hid (by rw [HFW.out.1]; exact HZ37.out)
  have HG1 := Lib.hid (finW_one HFW.out)
  have HMD := Lib.hid (implIsMask_any s D hD)
  rw [h1] at HMD
  have h0 := Lib.hid hD.2.1
  clear hD
  go_enter Try.func22, Try.ntmps22
  go_upto_region 1 with fail
  have L0 := Lib.hid (lay2 w D Z)
  generalize (w.alloc (.cells D 30)).alloc (.cells Z 30) = v at *
  go_wp2_with (first | (refine wpList_load_row rfl 30 (.tmp 1) rfl w.heap.size rfl 30 D (0, 0) _ (L0.out.at 1 rfl) Try.underlying30 rfl HDI.out ?_) | (go_at_call 19; fail))
  refine (HMD.out _).mono ?_
  rintro e w1 ⟨rfl, b1⟩
  have L1 := Lib.hid (L0.out.below b1)
  clear b1 L0
  have c0 : w1.cell? ⟨w.heap.size, 0, none⟩ = some (.int .i64 s) := by rw [L1.out.cell 1 rfl]; exact h0.out
  go_wp2_with (go_at_call 77; fail)
  refine (HB.out _ _ (L1.out.at 1 rfl)).mono ?_
  rintro e w2 ⟨rfl, b2⟩
  have L2 := Lib.hid (L1.out.below b2)
  clear b2 L1 c0 HB
  go_wp2_with (refine wpList_store_row rfl 30 (.tmp 2) (.tmp 12) rfl (w.heap.size + 1) G rfl rfl 30 Z (L2.out.at 0 rfl) HGI.out HZG.out HG1.out ?_)
  refine bodyPost_ret (v := .tuple #[.agg G, .int .i64 0]) (results_row_tmp (fn := Try.f22) (p := 2) (u := 3) (ty := 30) rfl _ _ (w.heap.size + 1) 30 G (0, 0) _ rfl (setRow_heap _ _ _ _ _ _ (L2.out.at 0 rfl)) Try.underlying30 rfl HGI.out) rfl ⟨rfl, ?_⟩
  exact below_setRow L2.out.2 (by omega) _

set_option maxRecDepth 100000 in
set_option maxHeartbeats 1000000 in
theorem implBehindMask_no0 (s t : Int) (D E : Array Value) (hD : Wav s D) (hE : Wav t E) (h1 : isWav s D = false) (w : World) : Calls Try.prog 25 #[.agg D, .agg E] w fun e w' => e = .returned (.tuple #[.agg (pic 0 zc), .int .i64 1]) ∧ Below w.heap.size w w' := by
  have hz37 := (zero_of_info info37').1
  have HS37 := Lib.hid (zero_of_info info37').2
  have HZ37 : Hid ((pic 0 zc).size = 65) := Lib.hid (pic_size 0 zc zc_size)
  have HZ1 := Lib.hid (zc_one 0)
  have HZW := Lib.hid (wav_zc 0)
  have hne := pic_ne
  generalize pic 0 zc = Z at *
  have HZI : Hid ((Try.prog.info? 30).map (·.size) = some Z.size) := Lib.hid (by rw [HZ37.out]; exact HS37.out)
  have HDI : Hid ((Try.prog.info? 30).map (·.size) = some D.size) := Lib.hid (by rw [hD.1]; exact HS37.out)
  have HEI : Hid ((Try.prog.info? 30).map (·.size) = some E.size) := Lib.hid (by rw [hE.1]; exact HS37.out)
  have HMD := Lib.hid (implIsW_any s D hD)
  rw [h1] at HMD
  have h0 := Lib.hid hD.2.1
  have h0' := Lib.hid hE.2.1
  clear hD hE
  go_enter Try.func25, Try.ntmps25
  go_upto_region 1 with fail
  have L0 := Lib.hid (lay3 w D E Z)
  generalize ((w.alloc (.cells D 30)).alloc (.cells E 30)).alloc (.cells Z 30) = v at *
  go_wp2_with (first | (refine wpList_load_row rfl 30 (.tmp 2) rfl w.heap.size rfl 30 D (0, 0) _ (L0.out.at 2 rfl) Try.underlying30 rfl HDI.out ?_) | (go_at_call 74; fail))
  refine (HMD.out _).mono ?_
  rintro e w1 ⟨rfl, b1⟩
  have L1 := Lib.hid (L0.out.below b1)
  clear b1 L0
  go_wp2_with (refine wpList_store_row rfl 30 (.tmp 4) (.tmp 14) rfl (w.heap.size + 1 + 1) Z rfl rfl 30 Z (L1.out.at 0 rfl) HZI.out (Lib.hid rfl : Hid (Z.size = Z.size)).out HZ1.out ?_)
  refine bodyPost_ret (v := .tuple #[.agg Z, .int .i64 1]) (results_row_tmp (fn := Try.f25) (p := 4) (u := 5) (ty := 30) rfl _ _ (w.heap.size + 1 + 1) 30 Z (0, 0) _ rfl (setRow_heap _ _ _ _ _ _ (L1.out.at 0 rfl)) Try.underlying30 rfl HZI.out) rfl ⟨rfl, ?_⟩
  exact below_setRow L1.out.2 (by omega) _

set_option maxRecDepth 100000 in
set_option maxHeartbeats 1000000 in
theorem implBehindMask_no1 (s t : Int) (D E : Array Value) (hD : Wav s D) (hE : Wav t E) (h1 : isWav s D = true) (h2 : isMsk t E = false) (w : World) : Calls Try.prog 25 #[.agg D, .agg E] w fun e w' => e = .returned (.tuple #[.agg (pic 0 zc), .int .i64 1]) ∧ Below w.heap.size w w' := by
  have hz37 := (zero_of_info info37').1
  have HS37 := Lib.hid (zero_of_info info37').2
  have HZ37 : Hid ((pic 0 zc).size = 65) := Lib.hid (pic_size 0 zc zc_size)
  have HZ1 := Lib.hid (zc_one 0)
  have HZW := Lib.hid (wav_zc 0)
  have hne := pic_ne
  generalize pic 0 zc = Z at *
  have HZI : Hid ((Try.prog.info? 30).map (·.size) = some Z.size) := Lib.hid (by rw [HZ37.out]; exact HS37.out)
  have HDI : Hid ((Try.prog.info? 30).map (·.size) = some D.size) := Lib.hid (by rw [hD.1]; exact HS37.out)
  have HEI : Hid ((Try.prog.info? 30).map (·.size) = some E.size) := Lib.hid (by rw [hE.1]; exact HS37.out)
  have HMD := Lib.hid (implIsW_any s D hD)
  rw [h1] at HMD
  have HME := Lib.hid (implIsMask_any t E hE)
  rw [h2] at HME
  have h0 := Lib.hid hD.2.1
  have h0' := Lib.hid hE.2.1
  clear hD hE
  go_enter Try.func25, Try.ntmps25
  go_upto_region 1 with fail
  have L0 := Lib.hid (lay3 w D E Z)
  generalize ((w.alloc (.cells D 30)).alloc (.cells E 30)).alloc (.cells Z 30) = v at *
  go_wp2_with (first | (refine wpList_load_row rfl 30 (.tmp 2) rfl w.heap.size rfl 30 D (0, 0) _ (L0.out.at 2 rfl) Try.underlying30 rfl HDI.out ?_) | (go_at_call 74; fail))
  refine (HMD.out _).mono ?_
  rintro e w1 ⟨rfl, b1⟩
  have L1 := Lib.hid (L0.out.below b1)
  clear b1 L0
  go_wp2_with (first | (refine wpList_load_row_g rfl 30 (.tmp 3) rfl (w.heap.size + 1) rfl 30 E (0, 0) _ (L1.out.at 1 rfl) Try.underlying30 rfl HEI.out ?_) | (go_at_call 19; fail))
  refine (HME.out _).mono ?_
  rintro e w2 ⟨rfl, b2⟩
  have L2 := Lib.hid (L1.out.below b2)
  clear b2 L1
  have c0 : w2.cell? ⟨w.heap.size, 0, none⟩ = some (.int .i64 s) := by rw [L2.out.cell 2 rfl]; exact h0.out
  have c1 : w2.cell? ⟨w.heap.size + 1, 0, none⟩ = some (.int .i64 t) := by rw [L2.out.cell 1 rfl]; exact h0'.out
  go_wp2_with (refine wpList_store_row rfl 30 (.tmp 4) (.tmp 14) rfl (w.heap.size + 1 + 1) Z rfl rfl 30 Z (L2.out.at 0 rfl) HZI.out (Lib.hid rfl : Hid (Z.size = Z.size)).out HZ1.out ?_)
  refine bodyPost_ret (v := .tuple #[.agg Z, .int .i64 1]) (results_row_tmp (fn := Try.f25) (p := 4) (u := 5) (ty := 30) rfl _ _ (w.heap.size + 1 + 1) 30 Z (0, 0) _ rfl (setRow_heap _ _ _ _ _ _ (L2.out.at 0 rfl)) Try.underlying30 rfl HZI.out) rfl ⟨rfl, ?_⟩
  exact below_setRow L2.out.2 (by omega) _

set_option maxRecDepth 100000 in
set_option maxHeartbeats 1000000 in
theorem implBehindMask_no2 (s t : Int) (D E : Array Value) (hD : Wav s D) (hE : Wav t E) (h1 : isWav s D = true) (h2 : isMsk t E = true) (hst : s ≠ t) (w : World) : Calls Try.prog 25 #[.agg D, .agg E] w fun e w' => e = .returned (.tuple #[.agg (pic 0 zc), .int .i64 2]) ∧ Below w.heap.size w w' := by
  have hz37 := (zero_of_info info37').1
  have HS37 := Lib.hid (zero_of_info info37').2
  have HZ37 : Hid ((pic 0 zc).size = 65) := Lib.hid (pic_size 0 zc zc_size)
  have HZ1 := Lib.hid (zc_one 0)
  have HZW := Lib.hid (wav_zc 0)
  have hne := pic_ne
  generalize pic 0 zc = Z at *
  have HZI : Hid ((Try.prog.info? 30).map (·.size) = some Z.size) := Lib.hid (by rw [HZ37.out]; exact HS37.out)
  have HDI : Hid ((Try.prog.info? 30).map (·.size) = some D.size) := Lib.hid (by rw [hD.1]; exact HS37.out)
  have HEI : Hid ((Try.prog.info? 30).map (·.size) = some E.size) := Lib.hid (by rw [hE.1]; exact HS37.out)
  have HMD := Lib.hid (implIsW_any s D hD)
  rw [h1] at HMD
  have HME := Lib.hid (implIsMask_any t E hE)
  rw [h2] at HME
  have h0 := Lib.hid hD.2.1
  have h0' := Lib.hid hE.2.1
  clear hD hE
  go_enter Try.func25, Try.ntmps25
  go_upto_region 1 with fail
  have L0 := Lib.hid (lay3 w D E Z)
  generalize ((w.alloc (.cells D 30)).alloc (.cells E 30)).alloc (.cells Z 30) = v at *
  go_wp2_with (first | (refine wpList_load_row rfl 30 (.tmp 2) rfl w.heap.size rfl 30 D (0, 0) _ (L0.out.at 2 rfl) Try.underlying30 rfl HDI.out ?_) | (go_at_call 74; fail))
  refine (HMD.out _).mono ?_
  rintro e w1 ⟨rfl, b1⟩
  have L1 := Lib.hid (L0.out.below b1)
  clear b1 L0
  go_wp2_with (first | (refine wpList_load_row_g rfl 30 (.tmp 3) rfl (w.heap.size + 1) rfl 30 E (0, 0) _ (L1.out.at 1 rfl) Try.underlying30 rfl HEI.out ?_) | (go_at_call 19; fail))
  refine (HME.out _).mono ?_
  rintro e w2 ⟨rfl, b2⟩
  have L2 := Lib.hid (L1.out.below b2)
  clear b2 L1
  have c0 : w2.cell? ⟨w.heap.size, 0, none⟩ = some (.int .i64 s) := by rw [L2.out.cell 2 rfl]; exact h0.out
  have c1 : w2.cell? ⟨w.heap.size + 1, 0, none⟩ = some (.int .i64 t) := by rw [L2.out.cell 1 rfl]; exact h0'.out
  go_wp2_with (refine wpList_store_row rfl 30 (.tmp 4) (.tmp 20) rfl (w.heap.size + 1 + 1) Z rfl rfl 30 Z (L2.out.at 0 rfl) HZI.out (Lib.hid rfl : Hid (Z.size = Z.size)).out HZ1.out ?_)
  refine bodyPost_ret (v := .tuple #[.agg Z, .int .i64 2]) (results_row_tmp (fn := Try.f25) (p := 4) (u := 5) (ty := 30) rfl _ _ (w.heap.size + 1 + 1) 30 Z (0, 0) _ rfl (setRow_heap _ _ _ _ _ _ (L2.out.at 0 rfl)) Try.underlying30 rfl HZI.out) rfl ⟨rfl, ?_⟩
  exact below_setRow L2.out.2 (by omega) _

set_option maxRecDepth 100000 in
set_option maxHeartbeats 1000000 in
theorem implBehindMask_yes (s : Nat) (hs : side s = true) (D E : Array Value) (hD : Wav s D) (hE : Wav s E) (h1 : isWav s D = true) (h2 : isMsk s E = true) (w : World) : Calls Try.prog 25 #[.agg D, .agg E] w fun e w' => e = .returned (.tuple #[.agg (pic s (gf (behF D E) (s * s))), .int .i64 0]) ∧ Below w.heap.size w w' := by
  have HFW : Hid (FinW s (pic s (gf (behF D E) (s * s)))) := Lib.hid (gf_fin s _ (behF_fin s D E hD h1) (s * s))
  have HB : Hid (∀ (v : World) (gm gw : Nat), v.heap[gm]? = some (.cells E 30 (0, 0)) → v.heap[gw]? = some (.cells D 30 (0, 0)) → Calls Try.prog 77 #[.int .i64 s, .func (.func 86) #[] #[.pointer (some ⟨gm, 0, none⟩), .pointer (some ⟨gw, 0, none⟩)]] v fun e w' =>
      e = .returned (.tuple #[.agg (pic s (gf (behF D E) (s * s))), .int .i64 0]) ∧ Below v.heap.size v w') := Lib.hid fun v gm gw q1 q2 =>
    build2_BE s hs (behF D E) (behF_fin s D E hD h1) ⟨gm, 0, none⟩ ⟨gw, 0, none⟩ v fun y x z hy hx hz =>
      rule_BE s hs D E hD hE y x hy hx gm gw z (by rw [hz.block _ (Array.getElem?_eq_some_iff.1 q1).1]; exact q1) (by rw [hz.block _ (Array.getElem?_eq_some_iff.1 q2).1]; exact q2)
  generalize pic s (gf (behF D E) (s * s)) = G at *
  have hz37 := (zero_of_info info37').1
  have HS37 := Lib.hid (zero_of_info info37').2
  have HZ37 : Hid ((pic 0 zc).size = 65) := Lib.hid (pic_size 0 zc zc_size)
  have HZ1 := Lib.hid (zc_one 0)
  have HZW := Lib.hid (wav_zc 0)
  have hne := pic_ne
  generalize pic 0 zc = Z at *
  have HZI : Hid ((Try.prog.info? 30).map (·.size) = some Z.size) := Lib.hid (by rw [HZ37.out]; exact HS37.out)
  have HDI : Hid ((Try.prog.info? 30).map (·.size) = some D.size) := Lib.hid (by rw [hD.1]; exact HS37.out)
  have HEI : Hid ((Try.prog.info? 30).map (·.size) = some E.size) := Lib.hid (by rw [hE.1]; exact HS37.out)
  have HMD := Lib.hid (implIsW_any s D hD)
  rw [h1] at HMD
  have HME := Lib.hid (implIsMask_any s E hE)
  rw [h2] at HME
  have h0 := Lib.hid hD.2.1
  have h0' := Lib.hid hE.2.1
  have HGI : Hid ((Try.prog.info? 30).map (·.size) = some G.size) := Lib.hid (by rw [HFW.out.1]; exact HS37.out)
  have HZG : Hid (Z.size = G.size) := Lib.hid (by rw [HFW.out.1]; exact HZ37.out)
  have HG1 := Lib.hid (finW_one HFW.out)
  clear hD hE
  go_enter Try.func25, Try.ntmps25
  go_upto_region 1 with fail
  have L0 := Lib.hid (lay3 w D E Z)
  generalize ((w.alloc (.cells D 30)).alloc (.cells E 30)).alloc (.cells Z 30) = v at *
  go_wp2_with (first | (refine wpList_load_row rfl 30 (.tmp 2) rfl w.heap.size rfl 30 D (0, 0) _ (L0.out.at 2 rfl) Try.underlying30 rfl HDI.out ?_) | (go_at_call 74; fail))
  refine (HMD.out _).mono ?_
  rintro e w1 ⟨rfl, b1⟩
  have L1 := Lib.hid (L0.out.below b1)
  clear b1 L0
  go_wp2_with (first | (refine wpList_load_row_g rfl 30 (.tmp 3) rfl (w.heap.size + 1) rfl 30 E (0, 0) _ (L1.out.at 1 rfl) Try.underlying30 rfl HEI.out ?_) | (go_at_call 19; fail))
  refine (HME.out _).mono ?_
  rintro e w2 ⟨rfl, b2⟩
  have L2 := Lib.hid (L1.out.below b2)
  clear b2 L1
  have c0 : w2.cell? ⟨w.heap.size, 0, none⟩ = some (.int .i64 s) := by rw [L2.out.cell 2 rfl]; exact h0.out
  have c1 : w2.cell? ⟨w.heap.size + 1, 0, none⟩ = some (.int .i64 s) := by rw [L2.out.cell 1 rfl]; exact h0'.out
  go_wp2_with (go_at_call 77; fail)
  refine (HB.out _ _ _ (L2.out.at 1 rfl) (L2.out.at 2 rfl)).mono ?_
  rintro e w3 ⟨rfl, b3⟩
  have L3 := Lib.hid (L2.out.below b3)
  clear b3 L2 c0 c1 HB
  go_wp2_with (refine wpList_store_row rfl 30 (.tmp 4) (.tmp 25) rfl (w.heap.size + 1 + 1) G rfl rfl 30 Z (L3.out.at 0 rfl) HGI.out HZG.out HG1.out ?_)
  refine bodyPost_ret (v := .tuple #[.agg G, .int .i64 0]) (results_row_tmp (fn := Try.f25) (p := 4) (u := 5) (ty := 30) rfl _ _ (w.heap.size + 1 + 1) 30 G (0, 0) _ rfl (setRow_heap _ _ _ _ _ _ (L3.out.at 0 rfl)) Try.underlying30 rfl HGI.out) rfl ⟨rfl, ?_⟩
  exact below_setRow L3.out.2 (by omega) _

end Go.Proofs.Ytjmfffgddmnkmab
