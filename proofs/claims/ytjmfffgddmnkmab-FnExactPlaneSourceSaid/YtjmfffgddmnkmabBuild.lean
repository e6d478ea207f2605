/- The program builds a wave of a side, cell by cell, by a rule that gives finite numbers. Condition: a side; a rule that only draws. -/
import Derived.Test.YtjmfffgddmnkmabBuildG
import Derived.Deep.QuietTactic
import Derived.BigQuiet
namespace Go.Proofs.Ytjmfffgddmnkmab
open Go Go.RowKit

set_option maxRecDepth 100000 in
set_option maxHeartbeats 1000000 in
theorem build_plane (s : Nat) (hs : side s = true) (F : Nat → Nat × Nat) (hF : ∀ i, (fin (F i).1 && fin (F i).2) = true) (pu pv pn : Addr) (w : World)
    (hR : ∀ (y x : Nat) (C : Array Value) (n : Nat), y < s → x < s → Calls Try.prog 134 #[.int .i64 y, .int .i64 x, .pointer (some pu), .pointer (some pv), .pointer (some pn)] (((w.alloc (.cells (pic 0 zc) 30)).alloc (.cells C 30)).drewN n) fun e w' =>
      e = .returned (.complex .f32 (F (s * y + x)).1 (F (s * y + x)).2) ∧ ∃ m, w' = (((w.alloc (.cells (pic 0 zc) 30)).alloc (.cells C 30)).drewN n).drewN m) :
    Calls Try.prog 77 #[.int .i64 s, .func (.func 134) #[] #[.pointer (some pu), .pointer (some pv), .pointer (some pn)]] w fun e w' =>
      e = .returned (.tuple #[.agg (pic s (gf F (s * s))), .int .i64 0]) ∧ Below w.heap.size w w' := by
  have hz37 := (zero_of_info info37').1
  have HS37 := Lib.hid (zero_of_info info37').2
  have HZ37 : Hid ((pic 0 zc).size = 65) := Lib.hid (pic_size 0 zc zc_size)
  have hne := pic_ne
  have HB := Lib.hid (pic_set0 0 s zc)
  have HR := Lib.hid hR
  have HFW : Hid (FinW s (pic s (gf F (s * s)))) := Lib.hid (gf_fin s F hF (s * s))
  have HPL : Hid (∀ y x, y < s → x < s → s * y + x < 64 ∧ s * y ≤ 56) := Lib.hid fun y x hy hx => place_lt s y x hs hy hx
  have hs8 : s ≤ 8 := by rcases side_nat s hs with rfl | rfl | rfl | rfl <;> omega
  clear hR hF
  obtain ⟨Z, hZ⟩ : ∃ Z, Z = pic 0 zc := ⟨_, rfl⟩
  rw [← hZ] at hz37 HZ37 hne HB HR
  have HE2 : Hid ((Try.prog.info? 30).map (·.size) = some (Z.setIfInBounds 0 (Value.int .i64 s)).size) := Lib.hid (by rw [HB.out, pic_size _ _ zc_size]; exact HS37.out)
  have HZ2 : Hid (Z.size = (Z.setIfInBounds 0 (Value.int .i64 s)).size) := Lib.hid (by simp)
  have H2 : Hid ((Z.setIfInBounds 0 (Value.int .i64 s)).all (·.oneCell') = true) := Lib.hid (by rw [HB.out]; exact zc_one s)
  obtain ⟨E, hE⟩ : ∃ E, E = pic s zc := ⟨_, rfl⟩
  rw [← hE] at HB
  have HEE := Lib.hid hE
  have HSS : Hid (s * s ≤ 64) := Lib.hid (sq_le s hs)
  clear hZ hE hs
  go_enter Try.func77, Try.ntmps77
  go_wp2_with (first | fail | (refine wpList_store_row rfl 30 (.tmp 6) (.tmp 10) rfl (w.heap.size + 1) (Z.setIfInBounds 0 (Value.int .i64 s)) rfl rfl 30 Z (h2_1 _ _ _) HE2.out HZ2.out H2.out ?_; rw [setRow_al2, HB.out]))
  clear hz37 hne HE2 HZ2 H2
  go_loopw [12] (fun i wr => ∃ (y n : Nat) (C : Array Value), y ≤ s ∧ i = .int .i64 y ∧ Hid (C = pic s (gf F (s * y))) ∧ wr = ((w.alloc (.cells Z 30)).alloc (.cells C 30)).drewN n) (fun i _ => s - (intOf i).toNat)
  case atStart => exact ⟨0, 0, E, by omega, rfl, Lib.hid (by rw [HEE.out, Nat.mul_zero, gf_zero]), rfl⟩
  case round =>
    obtain ⟨y, n, C, hy, rfl, HC, rfl⟩ := hrel
    by_cases hlt : y < s
    · have hdy : decide ((y : Int) < (s : Int)) = true := by simp; omega
      go_wp2
      go_loopw [16] (fun i wr => ∃ (x n : Nat) (D : Array Value), x ≤ s ∧ i = .int .i64 x ∧ Hid (D = pic s (gf F (s * y + x))) ∧ wr = ((w.alloc (.cells Z 30)).alloc (.cells D 30)).drewN n) (fun i _ => s - (intOf i).toNat)
      case atStart => exact ⟨0, n, C, by omega, rfl, HC, rfl⟩
      case round =>
        obtain ⟨x, n1, D, hx, rfl, HD, rfl⟩ := hrel
        by_cases hlt2 : x < s
        · have hdx : decide ((x : Int) < (s : Int)) = true := by simp; omega
          obtain ⟨hk, hk'⟩ := HPL.out y x hlt hlt2
          have hw1 : IntKind.i64.wrap ((s : Int) * (y : Int)) = ((s * y : Nat) : Int) := by rw [← Int.natCast_mul]; exact IntWalk.i64_in _ (by omega)
          have HRR := Lib.hid (HR.out y x D n1 hlt hlt2)
          have hold : D[1 + (s * y + x)]? = some (.complex .f32 0 0) := by rw [HD.out]; exact gf_old s F (s * y + x) hk
          have HD2 : Hid (D.setIfInBounds (1 + (s * y + x)) (.complex .f32 (F (s * y + x)).1 (F (s * y + x)).2) = pic s (gf F (s * y + x + 1))) := Lib.hid (by rw [HD.out]; exact gf_set s F _ hk)
          clear HD
          have hmul : s * y = s * y := rfl
          generalize s * y = p at *
          have hw2 : IntKind.i64.wrap ((p : Int) + (x : Int)) = ((p + x : Nat) : Int) := by rw [Int.natCast_add]; exact IntWalk.i64_in _ (by omega)
          have hq : ((p + x : Nat) : Int) < 64 := by omega
          have HQ := Lib.hid (show p + x + 1 = p + (x + 1) by omega)
          generalize hkk : p + x = k at *
          go_wp2_with (go_at_call 134; refine HRR.out.mono ?_; rintro e w' ⟨rfl, m, rfl⟩)
          rw [setCell_al2]
          exact ⟨⟨x + 1, _, _, by omega, by go_num, Lib.hid (by rw [HD2.out, HQ.out]), rfl⟩, by simp [intOf]; omega⟩
        · obtain rfl : x = s := by omega
          go_wp2
          exact ⟨⟨y + 1, n1, D, by omega, by go_num, Lib.hid (by rw [HD.out, show x * (y + 1) = x * y + x by rw [Nat.mul_succ]]), rfl⟩, by simp [intOf]; omega⟩
    · obtain rfl : y = s := by omega
      have HCI : Hid ((Try.prog.info? 30).map (·.size) = some C.size) := Lib.hid (by rw [HC.out, HFW.out.1]; exact HS37.out)
      have HZC : Hid (Z.size = C.size) := Lib.hid (by rw [HC.out, HFW.out.1]; exact HZ37.out)
      have HC1 : Hid (C.all (·.oneCell') = true) := Lib.hid (by rw [HC.out]; exact finW_one HFW.out)
      have HFC : Hid (FinW y C) := Lib.hid (by rw [HC.out]; exact HFW.out)
      have HH1 : Hid ((((w.alloc (.cells Z 30)).alloc (.cells C 30)).drewN n).heap[w.heap.size + 1]? = some (.cells C 30)) := Lib.hid (h2_1 _ _ _)
      have HB2 : Hid (Below w.heap.size w (((w.alloc (.cells Z 30)).alloc (.cells C 30)).drewN n)) := Lib.hid (below_drewN (below_al2 _ _ _) _)
      have HH0 : Hid ((((w.alloc (.cells Z 30)).alloc (.cells C 30)).drewN n).heap[w.heap.size]? = some (.cells Z 30)) := Lib.hid (h2_0 _ _ _)
      have HLT : Hid (w.heap.size < (((w.alloc (.cells Z 30)).alloc (.cells C 30)).drewN n).heap.size) := Lib.hid (Array.getElem?_eq_some_iff.1 HH0.out).1
      clear HR HPL HB HEE HSS HFW HS37 HZ37
      generalize ((w.alloc (.cells Z 30)).alloc (.cells C 30)).drewN n = v at *
      go_wp2_with (first | fail | (refine wpList_load_row rfl 30 (.tmp 6) rfl (w.heap.size + 1) rfl 30 C (0, 0) _ HH1.out Try.underlying30 rfl HCI.out ?_))
      refine (finite_wave y C HFC.out v).mono ?_
      rintro e w1 ⟨rfl, b1⟩
      have HG1 : Hid (w1.heap[w.heap.size]? = some (.cells Z 30)) := Lib.hid (by rw [b1.block _ HLT.out]; exact HH0.out)
      have HB3 : Hid (Below w.heap.size w w1) := Lib.hid (HB2.out.trans (b1.mono (by have := HLT.out; omega)))
      clear b1 HH0 HH1 HLT HB2
      go_wp2_with (first | fail | (refine wpList_store_row rfl 30 (.tmp 4) (.tmp 34) rfl w.heap.size C rfl rfl 30 Z HG1.out HCI.out HZC.out HC1.out ?_))
      refine bodyPost_ret (v := .tuple #[.agg C, .int .i64 0]) (results_row_tmp (fn := Try.f77) (p := 4) (u := 5) (ty := 30) rfl _ _ w.heap.size 30 C (0, 0) _ rfl (setRow_heap _ _ _ _ _ _ HG1.out) Try.underlying30 rfl HCI.out) rfl ⟨by rw [HC.out], ?_⟩
      exact below_setRow HB3.out (Nat.le_refl _) _

end Go.Proofs.Ytjmfffgddmnkmab
