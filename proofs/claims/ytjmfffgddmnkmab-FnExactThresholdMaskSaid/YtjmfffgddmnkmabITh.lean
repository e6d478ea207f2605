/- The program's threshold masks. Condition: 64 floats. -/
import Derived.Test.YtjmfffgddmnkmabSTh
import Derived.Test.YtjmfffgddmnkmabIA
import Derived.Test.YtjmfffgddmnkmabRes
import Derived.Deep.QuietTactic
import Derived.BigQuiet
namespace Go.Proofs.Ytjmfffgddmnkmab
open Go Go.RowKit

set_option maxRecDepth 100000 in
set_option maxHeartbeats 1000000 in
theorem build2_TH (s : Nat) (hs : side s = true) (F : Nat → Nat × Nat) (hF : ∀ i, (fin (F i).1 && fin (F i).2) = true) (pp pt : Addr) (w : World)
    (hR : ∀ (y x : Nat) (v : World), y < s → x < s → Below w.heap.size w v → Calls Try.prog 107 #[.int .i64 y, .int .i64 x, .pointer (some pp), .pointer (some pt)] v fun e w' =>
      e = .returned (.complex .f32 (F (s * y + x)).1 (F (s * y + x)).2) ∧ Below v.heap.size v w') :
    Calls Try.prog 77 #[.int .i64 s, .func (.func 107) #[] #[.pointer (some pp), .pointer (some pt)]] w fun e w' =>
      e = .returned (.tuple #[.agg (pic s (gf F (s * s))), .int .i64 0]) ∧ Below w.heap.size w w' := by
  have hz37 := (zero_of_info info37').1
  have HS37 := Lib.hid (zero_of_info info37').2
  have HZ37 : Hid ((pic 0 zc).size = 65) := Lib.hid (pic_size 0 zc zc_size)
  have hne := pic_ne
  have HB := Lib.hid (pic_set0 0 s zc)
  have HR := Lib.hid hR
  have HFW : Hid (FinW s (pic s (gf F (s * s)))) := Lib.hid (gf_fin s F hF (s * s))
  have HPL : Hid (∀ y x, y < s → x < s → s * y + x < 64 ∧ s * y ≤ 56) := Lib.hid fun y x hy hx => place_lt s y x hs hy hx
  have hs8 : s ≤ 8 := by rcases side_nat s hs with rfl | rfl | rfl | rfl <;> omega
  clear hR hF
  obtain ⟨Z, hZ⟩ : ∃ Z, Z = pic 0 zc := ⟨_, rfl⟩
  rw [← hZ] at hz37 HZ37 hne HB
  have HE2 : Hid ((Try.prog.info? 30).map (·.size) = some (Z.setIfInBounds 0 (Value.int .i64 s)).size) := Lib.hid (by rw [HB.out, pic_size _ _ zc_size]; exact HS37.out)
  have HZ2 : Hid (Z.size = (Z.setIfInBounds 0 (Value.int .i64 s)).size) := Lib.hid (by simp)
  have H2 : Hid ((Z.setIfInBounds 0 (Value.int .i64 s)).all (·.oneCell') = true) := Lib.hid (by rw [HB.out]; exact zc_one s)
  obtain ⟨E, hE⟩ : ∃ E, E = pic s zc := ⟨_, rfl⟩
  rw [← hE] at HB
  have HEE := Lib.hid hE
  clear hZ hE hs
  go_enter Try.func77, Try.ntmps77
  go_wp2_with (first | fail | (refine wpList_store_row rfl 30 (.tmp 6) (.tmp 10) rfl (w.heap.size + 1) (Z.setIfInBounds 0 (Value.int .i64 s)) rfl rfl 30 Z (h2_1 _ _ _) HE2.out HZ2.out H2.out ?_; rw [setRow_al2, HB.out]))
  have GG : Hid (((w.alloc (.cells Z 30)).alloc (.cells E 30)).heap[w.heap.size + 1]? = some (.cells E 30 (0, 0))) := Lib.hid (h2_1 _ _ _)
  have GZ : Hid (((w.alloc (.cells Z 30)).alloc (.cells E 30)).heap[w.heap.size]? = some (.cells Z 30 (0, 0))) := Lib.hid (h2_0 _ _ _)
  have BB : Hid (Below w.heap.size w ((w.alloc (.cells Z 30)).alloc (.cells E 30))) := Lib.hid (below_al2 _ _ _)
  generalize (w.alloc (.cells Z 30)).alloc (.cells E 30) = V at *
  clear hz37 hne HE2 HZ2 H2
  go_loopw [12] (fun i wr => ∃ (y : Nat) (C : Array Value), y ≤ s ∧ i = .int .i64 y ∧ Hid (C = pic s (gf F (s * y))) ∧ Hid (wr.heap[w.heap.size + 1]? = some (.cells C 30 (0, 0))) ∧ Hid (wr.heap[w.heap.size]? = some (.cells Z 30 (0, 0))) ∧ Hid (Below w.heap.size w wr)) (fun i _ => s - (intOf i).toNat)
  case atStart => exact ⟨0, E, by omega, rfl, Lib.hid (by rw [HEE.out, Nat.mul_zero, gf_zero]), GG, GZ, BB⟩
  case round =>
    obtain ⟨y, C, hy, rfl, HC, G, Z0, B⟩ := hrel
    by_cases hlt : y < s
    · have hdy : decide ((y : Int) < (s : Int)) = true := by simp; omega
      go_wp2
      go_loopw [16] (fun i wr => ∃ (x : Nat) (D : Array Value), x ≤ s ∧ i = .int .i64 x ∧ Hid (D = pic s (gf F (s * y + x))) ∧ Hid (wr.heap[w.heap.size + 1]? = some (.cells D 30 (0, 0))) ∧ Hid (wr.heap[w.heap.size]? = some (.cells Z 30 (0, 0))) ∧ Hid (Below w.heap.size w wr)) (fun i _ => s - (intOf i).toNat)
      case atStart => exact ⟨0, C, by omega, rfl, HC, G, Z0, B⟩
      case round =>
        obtain ⟨x, D, hx, rfl, HD, G, Z0, B⟩ := hrel
        by_cases hlt2 : x < s
        · have hdx : decide ((x : Int) < (s : Int)) = true := by simp; omega
          obtain ⟨hk, hk'⟩ := HPL.out y x hlt hlt2
          have hw1 : IntKind.i64.wrap ((s : Int) * (y : Int)) = ((s * y : Nat) : Int) := by rw [← Int.natCast_mul]; exact IntWalk.i64_in _ (by omega)
          have HRR := Lib.hid (HR.out y x wr hlt hlt2 B.out)
          have hold0 : Hid (D[1 + (s * y + x)]? = some (.complex .f32 0 0)) := Lib.hid (by rw [HD.out]; exact gf_old s F (s * y + x) hk)
          have HD2 : Hid (D.setIfInBounds (1 + (s * y + x)) (.complex .f32 (F (s * y + x)).1 (F (s * y + x)).2) = pic s (gf F (s * y + x + 1))) := Lib.hid (by rw [HD.out]; exact gf_set s F _ hk)
          clear HD
          generalize s * y = p at *
          have hw2 : IntKind.i64.wrap ((p : Int) + (x : Int)) = ((p + x : Nat) : Int) := by rw [Int.natCast_add]; exact IntWalk.i64_in _ (by omega)
          have hq : ((p + x : Nat) : Int) < 64 := by omega
          have HQ := Lib.hid (show p + x + 1 = p + (x + 1) by omega)
          generalize hkk : p + x = k at *
          go_wp2_with (go_at_call 107; fail)
          refine HRR.out.mono ?_
          rintro e w1 ⟨rfl, b1⟩
          have G1 : Hid (w1.heap[w.heap.size + 1]? = some (.cells D 30 (0, 0))) := Lib.hid (by rw [b1.block _ (Array.getElem?_eq_some_iff.1 G.out).1]; exact G.out)
          have Z1 : Hid (w1.heap[w.heap.size]? = some (.cells Z 30 (0, 0))) := Lib.hid (by rw [b1.block _ (Array.getElem?_eq_some_iff.1 Z0.out).1]; exact Z0.out)
          have B1 : Hid (Below w.heap.size w w1) := Lib.hid (B.out.trans (b1.mono B.out.size))
          clear b1 G Z0 B
          have hold : w1.cell? ⟨w.heap.size + 1, 1 + k, none⟩ = some (.complex .f32 0 0) := by rw [cell_of_row _ _ _ _ _ _ G1.out]; exact hold0.out
          have hfree : w1.frozen? ⟨w.heap.size + 1, 1 + k, none⟩ = false := frozen_of_row _ _ _ _ _ G1.out
          go_wp2
          exact ⟨⟨x + 1, _, by omega, by go_num, Lib.hid (by rw [← HQ.out]; exact HD2.out), Lib.hid (heap_setCell_same _ _ _ _ _ _ G1.out), Lib.hid (by rw [heap_setCell_other _ _ _ _ (by show w.heap.size ≠ w.heap.size + 1; omega)]; exact Z1.out), Lib.hid (B1.out.setCell (by show w.heap.size ≤ w.heap.size + 1; omega) _)⟩, by simp [intOf]; omega⟩
        · obtain rfl : x = s := by omega
          go_wp2
          exact ⟨⟨y + 1, D, by omega, by go_num, Lib.hid (by rw [HD.out, show x * (y + 1) = x * y + x by rw [Nat.mul_succ]]), G, Z0, B⟩, by simp [intOf]; omega⟩
    · obtain rfl : y = s := by omega
      have HCI : Hid ((Try.prog.info? 30).map (·.size) = some C.size) := Lib.hid (by rw [HC.out, HFW.out.1]; exact HS37.out)
      have HZC : Hid (Z.size = C.size) := Lib.hid (by rw [HC.out, HFW.out.1]; exact HZ37.out)
      have HC1 : Hid (C.all (·.oneCell') = true) := Lib.hid (by rw [HC.out]; exact finW_one HFW.out)
      have HFC : Hid (FinW y C) := Lib.hid (by rw [HC.out]; exact HFW.out)
      have HLT : Hid (w.heap.size < wr.heap.size) := Lib.hid (Array.getElem?_eq_some_iff.1 Z0.out).1
      clear HR HPL HB HEE HFW HS37 HZ37
      go_wp2_with (first | fail | (refine wpList_load_row rfl 30 (.tmp 6) rfl (w.heap.size + 1) rfl 30 C (0, 0) _ G.out Try.underlying30 rfl HCI.out ?_))
      refine (finite_wave y C HFC.out wr).mono ?_
      rintro e w1 ⟨rfl, b1⟩
      have HG1 : Hid (w1.heap[w.heap.size]? = some (.cells Z 30)) := Lib.hid (by rw [b1.block _ HLT.out]; exact Z0.out)
      have HB3 : Hid (Below w.heap.size w w1) := Lib.hid (B.out.trans (b1.mono B.out.size))
      clear b1 Z0 G HLT B
      go_wp2_with (first | fail | (refine wpList_store_row rfl 30 (.tmp 4) (.tmp 34) rfl w.heap.size C rfl rfl 30 Z HG1.out HCI.out HZC.out HC1.out ?_))
      refine bodyPost_ret (v := .tuple #[.agg C, .int .i64 0]) (results_row_tmp (fn := Try.f77) (p := 4) (u := 5) (ty := 30) rfl _ _ w.heap.size 30 C (0, 0) _ rfl (setRow_heap _ _ _ _ _ _ HG1.out) Try.underlying30 rfl HCI.out) rfl ⟨by rw [HC.out], ?_⟩
      exact below_setRow HB3.out (Nat.le_refl _) _


set_option maxRecDepth 100000 in
set_option maxHeartbeats 1000000 in
theorem rule_TH (s : Nat) (hs : side s = true) (zs : Array Value) (hz : Floats zs) (t : Nat) (y x : Nat) (hy : y < s) (hx : x < s) (b c : Nat) (w : World) (hb : w.heap[b]? = some (.cells (pic s zs) 50 (0, 0))) (hc : w.cell? ⟨c, 0, none⟩ = some (.float .f32 t)) :
    Calls Try.prog 107 #[.int .i64 y, .int .i64 x, .pointer (some ⟨b, 0, none⟩), .pointer (some ⟨c, 0, none⟩)] w fun e w' => e = .returned (.complex .f32 (cellTh zs t (s * y + x)).1 (cellTh zs t (s * y + x)).2) ∧ Below w.heap.size w w' := by
  obtain ⟨hk, hk'⟩ := place_lt s y x hs hy hx
  have hs8 : 1 ≤ s ∧ s ≤ 8 := by rcases side_nat s hs with rfl | rfl | rfl | rfl <;> omega
  obtain ⟨v, hv, hzk⟩ := hz.2 _ hk
  have hp0 : w.cell? ⟨b, 0, none⟩ = some (.int .i64 s) := by rw [cell_of_row _ _ _ _ _ _ hb]; exact pic_zero s zs
  have hpk : w.cell? ⟨b, 1 + (s * y + x), none⟩ = some (.float .f32 v) := by rw [cell_of_row _ _ _ _ _ _ hb, Nat.add_comm, pic_succ]; exact hzk
  have HT := Lib.hid (cellTh_at zs t _ v hzk)
  have hw1 : IntKind.i64.wrap ((s : Int) * (y : Int)) = ((s * y : Nat) : Int) := by rw [← Int.natCast_mul]; exact IntWalk.i64_in _ (by omega)
  generalize cellTh zs t (s * y + x) = T at *
  generalize s * y = p at *
  have hw2 : IntKind.i64.wrap ((p : Int) + (x : Int)) = ((p + x : Nat) : Int) := by rw [Int.natCast_add]; exact IntWalk.i64_in _ (by omega)
  have hq : ((p + x : Nat) : Int) < 64 := by omega
  have hq0 : (0 : Int) ≤ ((p + x : Nat) : Int) := by omega
  generalize hkk : p + x = k at *
  have hg : (FloatKind.f32.format.order v t == some .gt || FloatKind.f32.format.order v t == some .eq) = geF v t := rfl
  clear hb hz hzk hk hk' hkk hv
  generalize geF v t = g at *
  go_enter Try.func107, Try.ntmps107
  go_wp2_with fail
  go_quiet ((go_at_call 79; exact Calls.quiet_of_same ((cell_any _ _).mono fun _ _ h => ⟨h.1, h.2.symm⟩)))
  go_wp2
  go_ret
  exact ⟨by rw [HT.out]; rfl, below_drewN (Below.refl _ _) _⟩

set_option maxRecDepth 100000 in
set_option maxHeartbeats 800000 in
theorem implTh_no0 (s : Int) (zs : Array Value) (t : Nat) (hz : Floats zs) (h0 : shown s zs = false) (w : World) : Calls Try.prog 43 #[.agg (pic s zs), .float .f32 t] w fun e w' => e = .returned (.tuple #[.agg (pic 0 zc), .int .i64 1]) ∧ Below w.heap.size w w' := by
  have hz37 := (zero_of_info info37').1
  have HS37 := Lib.hid (zero_of_info info37').2
  have HZ37 : Hid ((pic 0 zc).size = 65) := Lib.hid (pic_size 0 zc zc_size)
  have HZ1 := Lib.hid (zc_one 0)
  have hne := pic_ne
  have HS := Lib.hid (size32 s zs hz)
  have hc := impl_any s zs hz
  rw [h0] at hc
  have HC := Lib.hid hc
  generalize pic s zs = cs at *
  generalize pic 0 zc = Z at *
  have HZI : Hid ((Try.prog.info? 30).map (·.size) = some Z.size) := Lib.hid (by rw [HZ37.out]; exact HS37.out)
  clear hz h0 hc
  go_enter Try.func43, Try.ntmps43
  go_wp2_with (first | fail | (refine wpList_load_row rfl 50 (.tmp 2) rfl w.heap.size rfl 50 cs (0, 0) _ (h3_0 _ _ _ _) Try.underlying50 rfl HS.out ?_))
  refine (HC.out _).mono ?_
  rintro e w1 ⟨rfl, b1⟩
  have G1 : Hid (w1.heap[w.heap.size + 1 + 1]? = some (.cells Z 30 (0, 0))) := Lib.hid (by rw [b1.block _ (by rw [size_al, size_al, size_al]; omega)]; exact h3_2 _ _ _ _)
  have B1 : Hid (Below w.heap.size w w1) := Lib.hid ((((((Below.refl w.heap.size w).alloc (Nat.le_refl _) _).alloc (by rw [size_al]; omega) _).alloc (by rw [size_al, size_al]; omega) _)).trans (b1.mono (by rw [size_al, size_al, size_al]; omega)))
  clear b1 HC
  go_wp2_with (first | fail | (refine wpList_store_row rfl 30 (.tmp 4) (.tmp 14) rfl (w.heap.size + 1 + 1) Z rfl rfl 30 Z G1.out HZI.out rfl HZ1.out ?_))
  refine bodyPost_ret (v := .tuple #[.agg Z, .int .i64 1]) (results_row_tmp (fn := Try.f43) (p := 4) (u := 5) (ty := 30) rfl _ _ (w.heap.size + 1 + 1) 30 Z (0, 0) _ rfl (setRow_heap _ _ _ _ _ _ G1.out) Try.underlying30 rfl HZI.out) rfl ⟨rfl, ?_⟩
  exact below_setRow B1.out (by omega) _

set_option maxRecDepth 100000 in
set_option maxHeartbeats 800000 in
theorem implTh_no1 (s : Int) (zs : Array Value) (t : Nat) (hz : Floats zs) (h0 : shown s zs = true) (hf : fin t = false) (w : World) : Calls Try.prog 43 #[.agg (pic s zs), .float .f32 t] w fun e w' => e = .returned (.tuple #[.agg (pic 0 zc), .int .i64 1]) ∧ Below w.heap.size w w' := by
  have hz37 := (zero_of_info info37').1
  have HS37 := Lib.hid (zero_of_info info37').2
  have HZ37 : Hid ((pic 0 zc).size = 65) := Lib.hid (pic_size 0 zc zc_size)
  have HZ1 := Lib.hid (zc_one 0)
  have hne := pic_ne
  have HS := Lib.hid (size32 s zs hz)
  have hc := impl_any s zs hz
  rw [h0] at hc
  have HC := Lib.hid hc
  generalize pic s zs = cs at *
  generalize pic 0 zc = Z at *
  have HZI : Hid ((Try.prog.info? 30).map (·.size) = some Z.size) := Lib.hid (by rw [HZ37.out]; exact HS37.out)
  clear hz h0 hc
  go_enter Try.func43, Try.ntmps43
  go_wp2_with (first | fail | (refine wpList_load_row rfl 50 (.tmp 2) rfl w.heap.size rfl 50 cs (0, 0) _ (h3_0 _ _ _ _) Try.underlying50 rfl HS.out ?_))
  refine (HC.out _).mono ?_
  rintro e w1 ⟨rfl, b1⟩
  have G1 : Hid (w1.heap[w.heap.size + 1 + 1]? = some (.cells Z 30 (0, 0))) := Lib.hid (by rw [b1.block _ (by rw [size_al, size_al, size_al]; omega)]; exact h3_2 _ _ _ _)
  have T1 : Hid (w1.heap[w.heap.size + 1]? = some (.cells #[.float .f32 t] 45 (0, 0))) := Lib.hid (by rw [b1.block _ (by rw [size_al, size_al, size_al]; omega)]; exact h3_1 _ _ _ _)
  have B1 : Hid (Below w.heap.size w w1) := Lib.hid ((((((Below.refl w.heap.size w).alloc (Nat.le_refl _) _).alloc (by rw [size_al]; omega) _).alloc (by rw [size_al, size_al]; omega) _)).trans (b1.mono (by rw [size_al, size_al, size_al]; omega)))
  clear b1 HC
  have ht : w1.cell? ⟨w.heap.size + 1, 0, none⟩ = some (.float .f32 t) := by rw [cell_of_row _ _ _ _ _ _ T1.out]; rfl
  go_wp2_with fail
  refine (finite_any _ _).mono ?_
  rw [hf]
  rintro e w' ⟨rfl, n', rfl⟩
  go_wp2_with (first | fail | (refine wpList_store_row rfl 30 (.tmp 4) (.tmp 14) rfl (w.heap.size + 1 + 1) Z rfl rfl 30 Z G1.out HZI.out rfl HZ1.out ?_))
  refine bodyPost_ret (v := .tuple #[.agg Z, .int .i64 1]) (results_row_tmp (fn := Try.f43) (p := 4) (u := 5) (ty := 30) rfl _ _ (w.heap.size + 1 + 1) 30 Z (0, 0) _ rfl (setRow_heap _ _ _ _ _ _ G1.out) Try.underlying30 rfl HZI.out) rfl ⟨rfl, ?_⟩
  exact below_setRow (below_drewN B1.out _) (by omega) _

set_option maxRecDepth 100000 in
set_option maxHeartbeats 1000000 in
theorem implTh_yes (s : Nat) (zs : Array Value) (t : Nat) (hz : Floats zs) (hs : side s = true) (h0 : shown s zs = true) (hf : fin t = true) (w : World) : Calls Try.prog 43 #[.agg (pic s zs), .float .f32 t] w fun e w' => e = .returned (.tuple #[.agg (pic s (gf (cellTh zs t) (s * s))), .int .i64 0]) ∧ Below w.heap.size w w' := by
  have hz37 := (zero_of_info info37').1
  have HS37 := Lib.hid (zero_of_info info37').2
  have HZ37 : Hid ((pic 0 zc).size = 65) := Lib.hid (pic_size 0 zc zc_size)
  have hne := pic_ne
  have HFW : Hid (FinW s (pic s (gf (cellTh zs t) (s * s)))) := Lib.hid (gf_fin s _ (cellTh_fin zs t) (s * s))
  have HB : Hid (∀ (v : World) (b c : Nat), v.heap[b]? = some (.cells (pic s zs) 50 (0, 0)) → v.cell? ⟨c, 0, none⟩ = some (.float .f32 t) → Calls Try.prog 77 #[.int .i64 s, .func (.func 107) #[] #[.pointer (some ⟨b, 0, none⟩), .pointer (some ⟨c, 0, none⟩)]] v fun e w' =>
      e = .returned (.tuple #[.agg (pic s (gf (cellTh zs t) (s * s))), .int .i64 0]) ∧ Below v.heap.size v w') := Lib.hid fun v b c hb hc =>
    build2_TH s hs (cellTh zs t) (cellTh_fin zs t) ⟨b, 0, none⟩ ⟨c, 0, none⟩ v fun y x z hy hx hzz =>
      rule_TH s hs zs hz t y x hy hx b c z (by rw [hzz.block _ (Array.getElem?_eq_some_iff.1 hb).1]; exact hb) (by rw [hzz.cell (World.block_lt_of_cell? v _ hc)]; exact hc)
  have HS := Lib.hid (size32 s zs hz)
  have HP0 := Lib.hid (pic_zero s zs)
  have hc := impl_any s zs hz
  rw [h0] at hc
  have HC := Lib.hid hc
  generalize pic s (gf (cellTh zs t) (s * s)) = G at *
  generalize pic s zs = cs at *
  generalize pic 0 zc = Z at *
  have HFI : Hid ((Try.prog.info? 30).map (·.size) = some G.size) := Lib.hid (by rw [HFW.out.1]; exact HS37.out)
  have HZF : Hid (Z.size = G.size) := Lib.hid (by rw [HFW.out.1]; exact HZ37.out)
  have HF1 := Lib.hid (finW_one HFW.out)
  clear hz h0 hc
  go_enter Try.func43, Try.ntmps43
  go_wp2_with (first | fail | (refine wpList_load_row rfl 50 (.tmp 2) rfl w.heap.size rfl 50 cs (0, 0) _ (h3_0 _ _ _ _) Try.underlying50 rfl HS.out ?_))
  refine (HC.out _).mono ?_
  rintro e w1 ⟨rfl, b1⟩
  have G1 : Hid (w1.heap[w.heap.size + 1 + 1]? = some (.cells Z 30 (0, 0))) := Lib.hid (by rw [b1.block _ (by rw [size_al, size_al, size_al]; omega)]; exact h3_2 _ _ _ _)
  have T1 : Hid (w1.heap[w.heap.size + 1]? = some (.cells #[.float .f32 t] 45 (0, 0))) := Lib.hid (by rw [b1.block _ (by rw [size_al, size_al, size_al]; omega)]; exact h3_1 _ _ _ _)
  have P1 : Hid (w1.heap[w.heap.size]? = some (.cells cs 50 (0, 0))) := Lib.hid (by rw [b1.block _ (by rw [size_al, size_al, size_al]; omega)]; exact h3_0 _ _ _ _)
  have B1 : Hid (Below w.heap.size w w1) := Lib.hid ((((((Below.refl w.heap.size w).alloc (Nat.le_refl _) _).alloc (by rw [size_al]; omega) _).alloc (by rw [size_al, size_al]; omega) _)).trans (b1.mono (by rw [size_al, size_al, size_al]; omega)))
  clear b1 HC
  have ht : w1.cell? ⟨w.heap.size + 1, 0, none⟩ = some (.float .f32 t) := by rw [cell_of_row _ _ _ _ _ _ T1.out]; rfl
  have hp0 : w1.cell? ⟨w.heap.size, 0, none⟩ = some (.int .i64 s) := by rw [cell_of_row _ _ _ _ _ _ P1.out]; exact HP0.out
  go_wp2_with fail
  refine (finite_any _ _).mono ?_
  rw [hf]
  rintro e w' ⟨rfl, n', rfl⟩
  go_wp2_with (go_at_call 77; fail)
  refine (HB.out (w1.drewN n') w.heap.size (w.heap.size + 1) P1.out (by rw [World.cell?_drewN]; exact ht)).mono ?_
  rintro e w2 ⟨rfl, b2⟩
  have G2 : Hid (w2.heap[w.heap.size + 1 + 1]? = some (.cells Z 30 (0, 0))) := Lib.hid (by rw [b2.block _ (Array.getElem?_eq_some_iff.1 G1.out).1]; exact G1.out)
  have B2 : Hid (Below w.heap.size w w2) := Lib.hid ((below_drewN B1.out _).trans (b2.mono B1.out.size))
  clear b2 HB G1 B1 ht hp0 T1 P1
  go_wp2_with (first | fail | (refine wpList_store_row rfl 30 (.tmp 4) (.tmp 19) rfl (w.heap.size + 1 + 1) G rfl rfl 30 Z G2.out HFI.out HZF.out HF1.out ?_))
  refine bodyPost_ret (v := .tuple #[.agg G, .int .i64 0]) (results_row_tmp (fn := Try.f43) (p := 4) (u := 5) (ty := 30) rfl _ _ (w.heap.size + 1 + 1) 30 G (0, 0) _ rfl (setRow_heap _ _ _ _ _ _ G2.out) Try.underlying30 rfl HFI.out) rfl ⟨rfl, ?_⟩
  exact below_setRow B2.out (by omega) _

theorem implTh_any (s : Int) (zs : Array Value) (t : Nat) (hz : Floats zs) (w : World) : Calls Try.prog 43 #[.agg (pic s zs), .float .f32 t] w fun e w' => e = .returned (.tuple #[.agg (pic (ansTh s zs t).1 (ansTh s zs t).2.1), .int .i64 (ansTh s zs t).2.2]) ∧ Below w.heap.size w w' := by
  cases h0 : shown s zs
  · rw [ansTh_no s zs t (by rw [h0]; rfl)]
    exact implTh_no0 s zs t hz h0 w
  cases hf : fin t
  · rw [ansTh_no s zs t (by rw [h0, hf]; rfl)]
    exact implTh_no1 s zs t hz h0 hf w
  · rw [ansTh_yes s zs t (by rw [h0, hf]; rfl)]
    obtain ⟨hs, n, rfl⟩ := shown_side s zs h0
    exact implTh_yes n zs t hz hs h0 hf w
end Go.Proofs.Ytjmfffgddmnkmab
