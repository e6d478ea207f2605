/- The program answers a TransferTable as it is asked. Condition: none. -/
import Derived.Test.YtjmfffgddmnkmabSTT
import Derived.Deep.QuietTactic
import Derived.BigQuiet
namespace Go.Proofs.Ytjmfffgddmnkmab
open Go Go.RowKit

theorem below_al3 (w : World) (A B C : Obj) : Below w.heap.size w (((w.alloc A).alloc B).alloc C) :=
  (((Below.refl _ _).alloc (Nat.le_refl _) _).alloc (by rw [size_al]; omega) _).alloc (by rw [size_al, size_al]; omega) _
theorem folded_any (s y : Nat) (hs : side s = true) (hy : y < s) (w : World) : Calls Try.prog 66 #[.int .i64 s, .int .i64 y] w fun e w' => e = .returned (.int .i64 (fr s y)) ∧ w = w' := by
  rcases side_nat s hs with rfl | rfl | rfl | rfl
  · exact match y, hy with
    | 0, _ => calls_of (fun _ => false) (known_none _) 999 (fun cs => by kernel_rfl)
    | k + 1, h => absurd h (by omega)
  · exact match y, hy with
    | 0, _ => calls_of (fun _ => false) (known_none _) 999 (fun cs => by kernel_rfl)
    | 1, _ => calls_of (fun _ => false) (known_none _) 999 (fun cs => by kernel_rfl)
    | k + 2, h => absurd h (by omega)
  · exact match y, hy with
    | 0, _ => calls_of (fun _ => false) (known_none _) 999 (fun cs => by kernel_rfl)
    | 1, _ => calls_of (fun _ => false) (known_none _) 999 (fun cs => by kernel_rfl)
    | 2, _ => calls_of (fun _ => false) (known_none _) 999 (fun cs => by kernel_rfl)
    | 3, _ => calls_of (fun _ => false) (known_none _) 999 (fun cs => by kernel_rfl)
    | k + 4, h => absurd h (by omega)
  · exact match y, hy with
    | 0, _ => calls_of (fun _ => false) (known_none _) 999 (fun cs => by kernel_rfl)
    | 1, _ => calls_of (fun _ => false) (known_none _) 999 (fun cs => by kernel_rfl)
    | 2, _ => calls_of (fun _ => false) (known_none _) 999 (fun cs => by kernel_rfl)
    | 3, _ => calls_of (fun _ => false) (known_none _) 999 (fun cs => by kernel_rfl)
    | 4, _ => calls_of (fun _ => false) (known_none _) 999 (fun cs => by kernel_rfl)
    | 5, _ => calls_of (fun _ => false) (known_none _) 999 (fun cs => by kernel_rfl)
    | 6, _ => calls_of (fun _ => false) (known_none _) 999 (fun cs => by kernel_rfl)
    | 7, _ => calls_of (fun _ => false) (known_none _) 999 (fun cs => by kernel_rfl)
    | k + 8, h => absurd h (by omega)
theorem isDistance_any (d : Int) (w : World) : Calls Try.prog 93 #[.int .i64 d] w fun e w' => e = .returned (.bool (inside d (-64) 64)) ∧ w = w' := by
  go_enter Try.func93, Try.ntmps93
  go_wp2_with fail
  refine (within_any _ _).mono ?_
  rintro e w' ⟨rfl, rfl⟩
  go_wp2
  go_ret
  exact ⟨rfl, rfl⟩

set_option maxRecDepth 100000 in
set_option maxHeartbeats 1000000 in
theorem build2_TT (s : Nat) (hs : side s = true) (F : Nat → Nat × Nat) (hF : ∀ i, (fin (F i).1 && fin (F i).2) = true) (pn pd : Addr) (w : World)
    (hR : ∀ (y x : Nat) (v : World), y < s → x < s → Below w.heap.size w v → Calls Try.prog 94 #[.int .i64 y, .int .i64 x, .pointer (some pn), .pointer (some pd)] v fun e w' =>
      e = .returned (.complex .f32 (F (s * y + x)).1 (F (s * y + x)).2) ∧ Below v.heap.size v w') :
    Calls Try.prog 77 #[.int .i64 s, .func (.func 94) #[] #[.pointer (some pn), .pointer (some pd)]] w fun e w' =>
      e = .returned (.tuple #[.agg (pic s (gf F (s * s))), .int .i64 0]) ∧ Below w.heap.size w w' := by
  have hz37 := (zero_of_info info37').1
  have HS37 := Lib.hid (zero_of_info info37').2
  have HZ37 : Hid ((pic 0 zc).size = 65) := Lib.hid (pic_size 0 zc zc_size)
  have hne := pic_ne
  have HB := Lib.hid (pic_set0 0 s zc)
  have HR := Lib.hid hR
  have HFW : Hid (FinW s (pic s (gf F (s * s)))) := Lib.hid (gf_fin s F hF (s * s))
  have HPL : Hid (∀ y x, y < s → x < s → s * y + x < 64 ∧ s * y ≤ 56) := Lib.hid fun y x hy hx => place_lt s y x hs hy hx
  have hs8 : s ≤ 8 := by rcases side_nat s hs with rfl | rfl | rfl | rfl <;> omega
  clear hR hF
  obtain ⟨Z, hZ⟩ : ∃ Z, Z = pic 0 zc := ⟨_, rfl⟩
  rw [← hZ] at hz37 HZ37 hne HB
  have HE2 : Hid ((Try.prog.info? 30).map (·.size) = some (Z.setIfInBounds 0 (Value.int .i64 s)).size) := Lib.hid (by rw [HB.out, pic_size _ _ zc_size]; exact HS37.out)
  have HZ2 : Hid (Z.size = (Z.setIfInBounds 0 (Value.int .i64 s)).size) := Lib.hid (by simp)
  have H2 : Hid ((Z.setIfInBounds 0 (Value.int .i64 s)).all (·.oneCell') = true) := Lib.hid (by rw [HB.out]; exact zc_one s)
  obtain ⟨E, hE⟩ : ∃ E, E = pic s zc := ⟨_, rfl⟩
  rw [← hE] at HB
  have HEE := Lib.hid hE
  clear hZ hE hs
  go_enter Try.func77, Try.ntmps77
  go_wp2_with (first | fail | (refine wpList_store_row rfl 30 (.tmp 6) (.tmp 10) rfl (w.heap.size + 1) (Z.setIfInBounds 0 (Value.int .i64 s)) rfl rfl 30 Z (h2_1 _ _ _) HE2.out HZ2.out H2.out ?_; rw [setRow_al2, HB.out]))
  have GG : Hid (((w.alloc (.cells Z 30)).alloc (.cells E 30)).heap[w.heap.size + 1]? = some (.cells E 30 (0, 0))) := Lib.hid (h2_1 _ _ _)
  have GZ : Hid (((w.alloc (.cells Z 30)).alloc (.cells E 30)).heap[w.heap.size]? = some (.cells Z 30 (0, 0))) := Lib.hid (h2_0 _ _ _)
  have BB : Hid (Below w.heap.size w ((w.alloc (.cells Z 30)).alloc (.cells E 30))) := Lib.hid (below_al2 _ _ _)
  generalize (w.alloc (.cells Z 30)).alloc (.cells E 30) = V at *
  clear hz37 hne HE2 HZ2 H2
  go_loopw [12] (fun i wr => ∃ (y : Nat) (C : Array Value), y ≤ s ∧ i = .int .i64 y ∧ Hid (C = pic s (gf F (s * y))) ∧ Hid (wr.heap[w.heap.size + 1]? = some (.cells C 30 (0, 0))) ∧ Hid (wr.heap[w.heap.size]? = some (.cells Z 30 (0, 0))) ∧ Hid (Below w.heap.size w wr)) (fun i _ => s - (intOf i).toNat)
  case atStart => exact ⟨0, E, by omega, rfl, Lib.hid (by rw [HEE.out, Nat.mul_zero, gf_zero]), GG, GZ, BB⟩
  case round =>
    obtain ⟨y, C, hy, rfl, HC, G, Z0, B⟩ := hrel
    by_cases hlt : y < s
    · have hdy : decide ((y : Int) < (s : Int)) = true := by simp; omega
      go_wp2
      go_loopw [16] (fun i wr => ∃ (x : Nat) (D : Array Value), x ≤ s ∧ i = .int .i64 x ∧ Hid (D = pic s (gf F (s * y + x))) ∧ Hid (wr.heap[w.heap.size + 1]? = some (.cells D 30 (0, 0))) ∧ Hid (wr.heap[w.heap.size]? = some (.cells Z 30 (0, 0))) ∧ Hid (Below w.heap.size w wr)) (fun i _ => s - (intOf i).toNat)
      case atStart => exact ⟨0, C, by omega, rfl, HC, G, Z0, B⟩
      case round =>
        obtain ⟨x, D, hx, rfl, HD, G, Z0, B⟩ := hrel
        by_cases hlt2 : x < s
        · have hdx : decide ((x : Int) < (s : Int)) = true := by simp; omega
          obtain ⟨hk, hk'⟩ := HPL.out y x hlt hlt2
          have hw1 : IntKind.i64.wrap ((s : Int) * (y : Int)) = ((s * y : Nat) : Int) := by rw [← Int.natCast_mul]; exact IntWalk.i64_in _ (by omega)
          have HRR := Lib.hid (HR.out y x wr hlt hlt2 B.out)
          have hold0 : Hid (D[1 + (s * y + x)]? = some (.complex .f32 0 0)) := Lib.hid (by rw [HD.out]; exact gf_old s F (s * y + x) hk)
          have HD2 : Hid (D.setIfInBounds (1 + (s * y + x)) (.complex .f32 (F (s * y + x)).1 (F (s * y + x)).2) = pic s (gf F (s * y + x + 1))) := Lib.hid (by rw [HD.out]; exact gf_set s F _ hk)
          clear HD
          generalize s * y = p at *
          have hw2 : IntKind.i64.wrap ((p : Int) + (x : Int)) = ((p + x : Nat) : Int) := by rw [Int.natCast_add]; exact IntWalk.i64_in _ (by omega)
          have hq : ((p + x : Nat) : Int) < 64 := by omega
          have HQ := Lib.hid (show p + x + 1 = p + (x + 1) by omega)
          generalize hkk : p + x = k at *
          go_wp2_with (go_at_call 94; fail)
          refine HRR.out.mono ?_
          rintro e w1 ⟨rfl, b1⟩
          have G1 : Hid (w1.heap[w.heap.size + 1]? = some (.cells D 30 (0, 0))) := Lib.hid (by rw [b1.block _ (Array.getElem?_eq_some_iff.1 G.out).1]; exact G.out)
          have Z1 : Hid (w1.heap[w.heap.size]? = some (.cells Z 30 (0, 0))) := Lib.hid (by rw [b1.block _ (Array.getElem?_eq_some_iff.1 Z0.out).1]; exact Z0.out)
          have B1 : Hid (Below w.heap.size w w1) := Lib.hid (B.out.trans (b1.mono B.out.size))
          clear b1 G Z0 B
          have hold : w1.cell? ⟨w.heap.size + 1, 1 + k, none⟩ = some (.complex .f32 0 0) := by rw [cell_of_row _ _ _ _ _ _ G1.out]; exact hold0.out
          have hfree : w1.frozen? ⟨w.heap.size + 1, 1 + k, none⟩ = false := frozen_of_row _ _ _ _ _ G1.out
          go_wp2
          exact ⟨⟨x + 1, _, by omega, by go_num, Lib.hid (by rw [← HQ.out]; exact HD2.out), Lib.hid (heap_setCell_same _ _ _ _ _ _ G1.out), Lib.hid (by rw [heap_setCell_other _ _ _ _ (by show w.heap.size ≠ w.heap.size + 1; omega)]; exact Z1.out), Lib.hid (B1.out.setCell (by show w.heap.size ≤ w.heap.size + 1; omega) _)⟩, by simp [intOf]; omega⟩
        · obtain rfl : x = s := by omega
          go_wp2
          exact ⟨⟨y + 1, D, by omega, by go_num, Lib.hid (by rw [HD.out, show x * (y + 1) = x * y + x by rw [Nat.mul_succ]]), G, Z0, B⟩, by simp [intOf]; omega⟩
    · obtain rfl : y = s := by omega
      have HCI : Hid ((Try.prog.info? 30).map (·.size) = some C.size) := Lib.hid (by rw [HC.out, HFW.out.1]; exact HS37.out)
      have HZC : Hid (Z.size = C.size) := Lib.hid (by rw [HC.out, HFW.out.1]; exact HZ37.out)
      have HC1 : Hid (C.all (·.oneCell') = true) := Lib.hid (by rw [HC.out]; exact finW_one HFW.out)
      have HFC : Hid (FinW y C) := Lib.hid (by rw [HC.out]; exact HFW.out)
      have HLT : Hid (w.heap.size < wr.heap.size) := Lib.hid (Array.getElem?_eq_some_iff.1 Z0.out).1
      clear HR HPL HB HEE HFW HS37 HZ37
      go_wp2_with (first | fail | (refine wpList_load_row rfl 30 (.tmp 6) rfl (w.heap.size + 1) rfl 30 C (0, 0) _ G.out Try.underlying30 rfl HCI.out ?_))
      refine (finite_wave y C HFC.out wr).mono ?_
      rintro e w1 ⟨rfl, b1⟩
      have HG1 : Hid (w1.heap[w.heap.size]? = some (.cells Z 30)) := Lib.hid (by rw [b1.block _ HLT.out]; exact Z0.out)
      have HB3 : Hid (Below w.heap.size w w1) := Lib.hid (B.out.trans (b1.mono B.out.size))
      clear b1 Z0 G HLT B
      go_wp2_with (first | fail | (refine wpList_store_row rfl 30 (.tmp 4) (.tmp 34) rfl w.heap.size C rfl rfl 30 Z HG1.out HCI.out HZC.out HC1.out ?_))
      refine bodyPost_ret (v := .tuple #[.agg C, .int .i64 0]) (results_row_tmp (fn := Try.f77) (p := 4) (u := 5) (ty := 30) rfl _ _ w.heap.size 30 C (0, 0) _ rfl (setRow_heap _ _ _ _ _ _ HG1.out) Try.underlying30 rfl HCI.out) rfl ⟨by rw [HC.out], ?_⟩
      exact below_setRow HB3.out (Nat.le_refl _) _

set_option maxRecDepth 100000 in
set_option maxHeartbeats 800000 in
theorem rule_TT (s y x : Nat) (d : Int) (hs : side s = true) (hy : y < s) (hx : x < s) (hd : -64 ≤ d ∧ d ≤ 64) (pn pd : Addr) (w : World) (cn : w.cell? pn = some (.int .i64 s)) (cd : w.cell? pd = some (.int .i64 d)) :
    Calls Try.prog 94 #[.int .i64 y, .int .i64 x, .pointer (some pn), .pointer (some pd)] w fun e w' => e = .returned (.complex .f32 (tre ((-d * ttq s y x) % 64).toNat) (tim ((-d * ttq s y x) % 64).toNat)) ∧ Below w.heap.size w w' := by
  have HF : Hid (∀ k, k < s → ∀ w, Calls Try.prog 66 #[.int .i64 s, .int .i64 k] w fun e w' => e = .returned (.int .i64 (fr s k)) ∧ w' = w) := Lib.hid fun k hk w => (folded_any s k hs hk w).mono fun e w' h => ⟨h.1, h.2.symm⟩
  have hf := fr_small s y hs hy
  have hg := fr_small s x hs hx
  unfold ttq
  clear hs
  generalize fr s = G at *
  have hff := sq4 (G y) hf
  have hgg := sq4 (G x) hg
  have hmd := mul_small (-d) (G y * G y + G x * G x) 64 33 (by omega) (by omega)
  have hwf : IntKind.i64.wrap (G y * G y) = G y * G y := IntWalk.i64_in _ (by omega)
  have hwg : IntKind.i64.wrap (G x * G x) = G x * G x := IntWalk.i64_in _ (by omega)
  have hwq : IntKind.i64.wrap (G y * G y + G x * G x) = G y * G y + G x * G x := IntWalk.i64_in _ (by omega)
  have hwn : IntKind.i64.wrap (-d) = -d := IntWalk.i64_in _ (by omega)
  have hwm : IntKind.i64.wrap (-d * (G y * G y + G x * G x)) = -d * (G y * G y + G x * G x) := IntWalk.i64_in _ (by omega)
  have HP := Lib.hid (impl_phase (-d * (G y * G y + G x * G x)))
  generalize ((-d * (G y * G y + G x * G x)) % 64).toNat = i at *
  go_enter Try.func94, Try.ntmps94
  go_wp2_with fail
  go_quiet ((go_at_call 66; exact Calls.quiet_of_same (HF.out _ (by assumption) _)))
  go_wp2_with fail
  refine (HP.out _).mono ?_
  rintro e w' ⟨rfl, rfl⟩
  go_wp2_with fail
  go_ret
  exact ⟨rfl, below_drewN (Below.refl _ _) _⟩

set_option maxRecDepth 100000 in
set_option maxHeartbeats 800000 in
theorem implTT_no0 (n d : Int) (h0 : side n = false) (w : World) : Calls Try.prog 34 #[.int .i64 n, .int .i64 d] w fun e w' => e = .returned (.tuple #[.agg (pic 0 zc), .int .i64 2]) ∧ Below w.heap.size w w' := by
  have hz37 := (zero_of_info info37').1
  have HS37 := Lib.hid (zero_of_info info37').2
  have HZ37 : Hid ((pic 0 zc).size = 65) := Lib.hid (pic_size 0 zc zc_size)
  have HZ1 := Lib.hid (zc_one 0)
  have hne := pic_ne
  generalize pic 0 zc = Z at *
  have HZI : Hid ((Try.prog.info? 30).map (·.size) = some Z.size) := Lib.hid (by rw [HZ37.out]; exact HS37.out)
  go_enter Try.func34, Try.ntmps34
  go_wp2_with fail
  refine (isSide_any _ _).mono ?_
  rw [h0]
  rintro e w' ⟨rfl, rfl⟩
  go_wp2_with (refine wpList_store_row rfl 30 (.tmp 4) (.tmp 14) rfl (w.heap.size + 1 + 1) Z rfl rfl 30 Z (h3_2 w (.cells #[.int .i64 n] 2) (.cells #[.int .i64 d] 2) (.cells Z 30)) HZI.out rfl HZ1.out ?_)
  refine bodyPost_ret (v := .tuple #[.agg Z, .int .i64 2]) (results_row_tmp (fn := Try.f34) (p := 4) (u := 5) (ty := 30) rfl _ _ (w.heap.size + 1 + 1) 30 Z (0, 0) _ rfl (setRow_heap _ _ _ _ _ _ (h3_2 w (.cells #[.int .i64 n] 2) (.cells #[.int .i64 d] 2) (.cells Z 30))) Try.underlying30 rfl HZI.out) rfl ⟨rfl, ?_⟩
  exact below_setRow (below_al3 w _ _ _) (by omega) _

set_option maxRecDepth 100000 in
set_option maxHeartbeats 800000 in
theorem implTT_no1 (n d : Int) (h0 : side n = true) (h1 : inside d (-64) 64 = false) (w : World) : Calls Try.prog 34 #[.int .i64 n, .int .i64 d] w fun e w' => e = .returned (.tuple #[.agg (pic 0 zc), .int .i64 2]) ∧ Below w.heap.size w w' := by
  have hz37 := (zero_of_info info37').1
  have HS37 := Lib.hid (zero_of_info info37').2
  have HZ37 : Hid ((pic 0 zc).size = 65) := Lib.hid (pic_size 0 zc zc_size)
  have HZ1 := Lib.hid (zc_one 0)
  have hne := pic_ne
  generalize pic 0 zc = Z at *
  have HZI : Hid ((Try.prog.info? 30).map (·.size) = some Z.size) := Lib.hid (by rw [HZ37.out]; exact HS37.out)
  go_enter Try.func34, Try.ntmps34
  go_wp2_with fail
  refine (isSide_any _ _).mono ?_
  rw [h0]
  rintro e w' ⟨rfl, rfl⟩
  go_wp2_with fail
  refine (isDistance_any _ _).mono ?_
  rw [h1]
  rintro e w' ⟨rfl, rfl⟩
  go_wp2_with (refine wpList_store_row rfl 30 (.tmp 4) (.tmp 14) rfl (w.heap.size + 1 + 1) Z rfl rfl 30 Z (h3_2 w (.cells #[.int .i64 n] 2) (.cells #[.int .i64 d] 2) (.cells Z 30)) HZI.out rfl HZ1.out ?_)
  refine bodyPost_ret (v := .tuple #[.agg Z, .int .i64 2]) (results_row_tmp (fn := Try.f34) (p := 4) (u := 5) (ty := 30) rfl _ _ (w.heap.size + 1 + 1) 30 Z (0, 0) _ rfl (setRow_heap _ _ _ _ _ _ (h3_2 w (.cells #[.int .i64 n] 2) (.cells #[.int .i64 d] 2) (.cells Z 30))) Try.underlying30 rfl HZI.out) rfl ⟨rfl, ?_⟩
  exact below_setRow (below_al3 w _ _ _) (by omega) _

set_option maxRecDepth 100000 in
set_option maxHeartbeats 800000 in
theorem implTT_yes (n d : Int) (h0 : side n = true) (h1 : inside d (-64) 64 = true) (w : World) : Calls Try.prog 34 #[.int .i64 n, .int .i64 d] w fun e w' => e = .returned (.tuple #[.agg (pic n (gf (cellTT n.toNat d) (n.toNat * n.toNat))), .int .i64 0]) ∧ Below w.heap.size w w' := by
  obtain ⟨s, rfl⟩ : ∃ s : Nat, n = s := ⟨n.toNat, by rcases side_yes n h0 with rfl | rfl | rfl | rfl <;> rfl⟩
  rw [show ((s : Int)).toNat = s from rfl]
  have hz37 := (zero_of_info info37').1
  have HS37 := Lib.hid (zero_of_info info37').2
  have HZ37 : Hid ((pic 0 zc).size = 65) := Lib.hid (pic_size 0 zc zc_size)
  have hd : -64 ≤ d ∧ d ≤ 64 := by simpa [inside] using h1
  have HFW : Hid (FinW s (pic s (gf (cellTT s d) (s * s)))) := Lib.hid (gf_fin s _ (cellTT_fin s d) (s * s))
  have HB : Hid (∀ (v' : World) (gn gd : Nat), v'.cell? ⟨gn, 0, none⟩ = some (.int .i64 s) → v'.cell? ⟨gd, 0, none⟩ = some (.int .i64 d) → Calls Try.prog 77 #[.int .i64 s, .func (.func 94) #[] #[.pointer (some ⟨gn, 0, none⟩), .pointer (some ⟨gd, 0, none⟩)]] v' fun e w' =>
      e = .returned (.tuple #[.agg (pic s (gf (cellTT s d) (s * s))), .int .i64 0]) ∧ Below v'.heap.size v' w') := Lib.hid fun v' gn gd qn qd =>
    build2_TT s h0 (cellTT s d) (cellTT_fin s d) ⟨gn, 0, none⟩ ⟨gd, 0, none⟩ v' fun y x' z hy hx' hz => by
      obtain ⟨e1, e2⟩ := place_at s y x' hx'
      have hr := rule_TT s y x' d h0 hy hx' hd ⟨gn, 0, none⟩ ⟨gd, 0, none⟩ z (by rw [hz.cell (World.block_lt_of_cell? v' _ qn)]; exact qn) (by rw [hz.cell (World.block_lt_of_cell? v' _ qd)]; exact qd)
      unfold cellTT
      rw [e1, e2]
      exact hr
  generalize pic s (gf (cellTT s d) (s * s)) = G at *
  generalize pic 0 zc = Z at *
  have HFI : Hid ((Try.prog.info? 30).map (·.size) = some G.size) := Lib.hid (by rw [HFW.out.1]; exact HS37.out)
  have HZF : Hid (Z.size = G.size) := Lib.hid (by rw [HFW.out.1]; exact HZ37.out)
  have HF1 := Lib.hid (finW_one HFW.out)
  go_enter Try.func34, Try.ntmps34
  go_wp2_with fail
  refine (isSide_any _ _).mono ?_
  rw [h0]
  rintro e w' ⟨rfl, rfl⟩
  go_wp2_with fail
  refine (isDistance_any _ _).mono ?_
  rw [h1]
  rintro e w' ⟨rfl, rfl⟩
  go_wp2_with (go_at_call 77; fail)
  refine (HB.out _ (w.heap.size) (w.heap.size + 1) (by rw [cell_of_row _ _ _ _ _ _ (h3_0 w _ _ _)]; rfl) (by rw [cell_of_row _ _ _ _ _ _ (h3_1 w _ _ _)]; rfl)).mono ?_
  rintro e w1 ⟨rfl, b1⟩
  have G1 : Hid (w1.heap[(w.heap.size + 1 + 1)]? = some (.cells Z 30)) := Lib.hid (by rw [b1.block _ (Array.getElem?_eq_some_iff.1 (h3_2 w (.cells #[.int .i64 s] 2) (.cells #[.int .i64 d] 2) (.cells Z 30))).1]; exact h3_2 w (.cells #[.int .i64 s] 2) (.cells #[.int .i64 d] 2) (.cells Z 30))
  have B3 : Hid (Below w.heap.size w w1) := Lib.hid ((below_al3 w _ _ _).trans (b1.mono (below_al3 w _ _ _).size))
  clear b1 HB
  go_wp2_with (refine wpList_store_row rfl 30 (.tmp 4) (.tmp 18) rfl (w.heap.size + 1 + 1) G rfl rfl 30 Z G1.out HFI.out HZF.out HF1.out ?_)
  refine bodyPost_ret (v := .tuple #[.agg G, .int .i64 0]) (results_row_tmp (fn := Try.f34) (p := 4) (u := 5) (ty := 30) rfl _ _ (w.heap.size + 1 + 1) 30 G (0, 0) _ rfl (setRow_heap _ _ _ _ _ _ G1.out) Try.underlying30 rfl HFI.out) rfl ⟨rfl, ?_⟩
  exact below_setRow B3.out (by omega) _

theorem implTT_any (n d : Int) (w : World) : Calls Try.prog 34 #[.int .i64 n, .int .i64 d] w fun e w' => e = .returned (.tuple #[.agg (pic (ansTT n d).1 (ansTT n d).2.1), .int .i64 (ansTT n d).2.2]) ∧ Below w.heap.size w w' := by
  cases h0 : side n
  · rw [ansTT_no n d (by unfold okTT; rw [h0]; rfl)]
    exact implTT_no0 n d h0 w
  cases h1 : inside d (-64) 64
  · rw [ansTT_no n d (by unfold okTT; rw [h0, h1]; rfl)]
    exact implTT_no1 n d h0 h1 w
  rw [ansTT_yes n d (by unfold okTT; rw [h0, h1]; rfl)]
  exact implTT_yes n d h0 h1 w
end Go.Proofs.Ytjmfffgddmnkmab
