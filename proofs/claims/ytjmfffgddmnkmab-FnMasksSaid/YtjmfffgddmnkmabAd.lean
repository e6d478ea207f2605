/- The program's sum of two waves. Condition: two waves of one side, the sums of their cells. -/
import Derived.Test.YtjmfffgddmnkmabCw
import Derived.Test.YtjmfffgddmnkmabAt
import Derived.Test.YtjmfffgddmnkmabLay
import Derived.Test.YtjmfffgddmnkmabGw
import Derived.Test.YtjmfffgddmnkmabM21
import Derived.Great.BuildSlice
import Derived.Deep.QuietTactic
import Derived.BigQuiet
import Derived.Deep.CutBlock
import Derived.Deep.DeepCutAuto
namespace Go.Proofs.Ytjmfffgddmnkmab
open Go Go.RowKit

set_option maxRecDepth 100000 in
set_option maxHeartbeats 1000000 in
theorem build2_AD (s : Nat) (hs : side s = true) (F : Nat → Nat × Nat) (hF : ∀ i, (fin (F i).1 && fin (F i).2) = true) (pa pb : Addr) (w : World)
    (hR : ∀ (y x : Nat) (v : World), y < s → x < s → Below w.heap.size w v → Calls Try.prog 90 #[.int .i64 y, .int .i64 x, .pointer (some pa), .pointer (some pb)] v fun e w' =>
      e = .returned (.complex .f32 (F (s * y + x)).1 (F (s * y + x)).2) ∧ Below v.heap.size v w') :
    Calls Try.prog 77 #[.int .i64 s, .func (.func 90) #[] #[.pointer (some pa), .pointer (some pb)]] w fun e w' =>
      e = .returned (.tuple #[.agg (pic s (gf F (s * s))), .int .i64 0]) ∧ Below w.heap.size w w' := by
  have hz37 := (zero_of_info info37').1
  have HS37 := Lib.hid (zero_of_info info37').2
  have HZ37 : Hid ((pic 0 zc).size = 65) := Lib.hid (pic_size 0 zc zc_size)
  have hne := pic_ne
  have HB := Lib.hid (pic_set0 0 s zc)
  have HR := Lib.hid hR
  have HFW : Hid (FinW s (pic s (gf F (s * s)))) := Lib.hid (gf_fin s F hF (s * s))
  have HPL : Hid (∀ y x, y < s → x < s → s * y + x < 64 ∧ s * y ≤ 56) := Lib.hid fun y x hy hx => place_lt s y x hs hy hx
  have hs8 : s ≤ 8 := by rcases side_nat s hs with rfl | rfl | rfl | rfl <;> omega
  clear hR hF
  obtain ⟨Z, hZ⟩ : ∃ Z, Z = pic 0 zc := ⟨_, rfl⟩
  rw [← hZ] at hz37 HZ37 hne HB
  have HE2 : Hid ((Try.prog.info? 30).map (·.size) = some (Z.setIfInBounds 0 (Value.int .i64 s)).size) := Lib.hid (by rw [HB.out, pic_size _ _ zc_size]; exact HS37.out)
  have HZ2 : Hid (Z.size = (Z.setIfInBounds 0 (Value.int .i64 s)).size) := Lib.hid (by simp)
  have H2 : Hid ((Z.setIfInBounds 0 (Value.int .i64 s)).all (·.oneCell') = true) := Lib.hid (by rw [HB.out]; exact zc_one s)
  obtain ⟨E, hE⟩ : ∃ E, E = pic s zc := ⟨_, rfl⟩
  rw [← hE] at HB
  have HEE := Lib.hid hE
  clear hZ hE hs
  go_enter Try.func77, Try.ntmps77
  go_wp2_with (first | fail | (refine wpList_store_row rfl 30 (.tmp 6) (.tmp 10) rfl (w.heap.size + 1) (Z.setIfInBounds 0 (Value.int .i64 s)) rfl rfl 30 Z (h2_1 _ _ _) HE2.out HZ2.out H2.out ?_; rw [setRow_al2, HB.out]))
  have GG : Hid (((w.alloc (.cells Z 30)).alloc (.cells E 30)).heap[w.heap.size + 1]? = some (.cells E 30 (0, 0))) := Lib.hid (h2_1 _ _ _)
  have GZ : Hid (((w.alloc (.cells Z 30)).alloc (.cells E 30)).heap[w.heap.size]? = some (.cells Z 30 (0, 0))) := Lib.hid (h2_0 _ _ _)
  have BB : Hid (Below w.heap.size w ((w.alloc (.cells Z 30)).alloc (.cells E 30))) := Lib.hid (below_al2 _ _ _)
  generalize (w.alloc (.cells Z 30)).alloc (.cells E 30) = V at *
  clear hz37 hne HE2 HZ2 H2
  go_loopw [12] (fun i wr => ∃ (y : Nat) (C : Array Value), y ≤ s ∧ i = .int .i64 y ∧ Hid (C = pic s (gf F (s * y))) ∧ Hid (wr.heap[w.heap.size + 1]? = some (.cells C 30 (0, 0))) ∧ Hid (wr.heap[w.heap.size]? = some (.cells Z 30 (0, 0))) ∧ Hid (Below w.heap.size w wr)) (fun i _ => s - (intOf i).toNat)
  case atStart => exact ⟨0, E, by omega, rfl, Lib.hid (by rw [HEE.out, Nat.mul_zero, gf_zero]), GG, GZ, BB⟩
  case round =>
    obtain ⟨y, C, hy, rfl, HC, G, Z0, B⟩ := hrel
    by_cases hlt : y < s
    · have hdy : decide ((y : Int) < (s : Int)) = true := by simp; omega
      go_wp2
      go_loopw [16] (fun i wr => ∃ (x : Nat) (D : Array Value), x ≤ s ∧ i = .int .i64 x ∧ Hid (D = pic s (gf F (s * y + x))) ∧ Hid (wr.heap[w.heap.size + 1]? = some (.cells D 30 (0, 0))) ∧ Hid (wr.heap[w.heap.size]? = some (.cells Z 30 (0, 0))) ∧ Hid (Below w.heap.size w wr)) (fun i _ => s - (intOf i).toNat)
      case atStart => exact ⟨0, C, by omega, rfl, HC, G, Z0, B⟩
      case round =>
        obtain ⟨x, D, hx, rfl, HD, G, Z0, B⟩ := hrel
        by_cases hlt2 : x < s
        · have hdx : decide ((x : Int) < (s : Int)) = true := by simp; omega
          obtain ⟨hk, hk'⟩ := HPL.out y x hlt hlt2
          have hw1 : IntKind.i64.wrap ((s : Int) * (y : Int)) = ((s * y : Nat) : Int) := by rw [← Int.natCast_mul]; exact IntWalk.i64_in _ (by omega)
          have HRR := Lib.hid (HR.out y x wr hlt hlt2 B.out)
          have hold0 : Hid (D[1 + (s * y + x)]? = some (.complex .f32 0 0)) := Lib.hid (by rw [HD.out]; exact gf_old s F (s * y + x) hk)
          have HD2 : Hid (D.setIfInBounds (1 + (s * y + x)) (.complex .f32 (F (s * y + x)).1 (F (s * y + x)).2) = pic s (gf F (s * y + x + 1))) := Lib.hid (by rw [HD.out]; exact gf_set s F _ hk)
          clear HD
          generalize s * y = p at *
          have hw2 : IntKind.i64.wrap ((p : Int) + (x : Int)) = ((p + x : Nat) : Int) := by rw [Int.natCast_add]; exact IntWalk.i64_in _ (by omega)
          have hq : ((p + x : Nat) : Int) < 64 := by omega
          have HQ := Lib.hid (show p + x + 1 = p + (x + 1) by omega)
          generalize hkk : p + x = k at *
          go_wp2_with (go_at_call 90; fail)
          refine HRR.out.mono ?_
          rintro e w1 ⟨rfl, b1⟩
          have G1 : Hid (w1.heap[w.heap.size + 1]? = some (.cells D 30 (0, 0))) := Lib.hid (by rw [b1.block _ (Array.getElem?_eq_some_iff.1 G.out).1]; exact G.out)
          have Z1 : Hid (w1.heap[w.heap.size]? = some (.cells Z 30 (0, 0))) := Lib.hid (by rw [b1.block _ (Array.getElem?_eq_some_iff.1 Z0.out).1]; exact Z0.out)
          have B1 : Hid (Below w.heap.size w w1) := Lib.hid (B.out.trans (b1.mono B.out.size))
          clear b1 G Z0 B
          have hold : w1.cell? ⟨w.heap.size + 1, 1 + k, none⟩ = some (.complex .f32 0 0) := by rw [cell_of_row _ _ _ _ _ _ G1.out]; exact hold0.out
          have hfree : w1.frozen? ⟨w.heap.size + 1, 1 + k, none⟩ = false := frozen_of_row _ _ _ _ _ G1.out
          go_wp2
          exact ⟨⟨x + 1, _, by omega, by go_num, Lib.hid (by rw [← HQ.out]; exact HD2.out), Lib.hid (heap_setCell_same _ _ _ _ _ _ G1.out), Lib.hid (by rw [heap_setCell_other _ _ _ _ (by show w.heap.size ≠ w.heap.size + 1; omega)]; exact Z1.out), Lib.hid (B1.out.setCell (by show w.heap.size ≤ w.heap.size + 1; omega) _)⟩, by simp [intOf]; omega⟩
        · obtain rfl : x = s := by omega
          go_wp2
          exact ⟨⟨y + 1, D, by omega, by go_num, Lib.hid (by rw [HD.out, show x * (y + 1) = x * y + x by rw [Nat.mul_succ]]), G, Z0, B⟩, by simp [intOf]; omega⟩
    · obtain rfl : y = s := by omega
      have HCI : Hid ((Try.prog.info? 30).map (·.size) = some C.size) := Lib.hid (by rw [HC.out, HFW.out.1]; exact HS37.out)
      have HZC : Hid (Z.size = C.size) := Lib.hid (by rw [HC.out, HFW.out.1]; exact HZ37.out)
      have HC1 : Hid (C.all (·.oneCell') = true) := Lib.hid (by rw [HC.out]; exact finW_one HFW.out)
      have HFC : Hid (FinW y C) := Lib.hid (by rw [HC.out]; exact HFW.out)
      have HLT : Hid (w.heap.size < wr.heap.size) := Lib.hid (Array.getElem?_eq_some_iff.1 Z0.out).1
      clear HR HPL HB HEE HFW HS37 HZ37
      go_wp2_with (first | fail | (refine wpList_load_row rfl 30 (.tmp 6) rfl (w.heap.size + 1) rfl 30 C (0, 0) _ G.out Try.underlying30 rfl HCI.out ?_))
      refine (finite_wave y C HFC.out wr).mono ?_
      rintro e w1 ⟨rfl, b1⟩
      have HG1 : Hid (w1.heap[w.heap.size]? = some (.cells Z 30)) := Lib.hid (by rw [b1.block _ HLT.out]; exact Z0.out)
      have HB3 : Hid (Below w.heap.size w w1) := Lib.hid (B.out.trans (b1.mono B.out.size))
      clear b1 Z0 G HLT B
      go_wp2_with (first | fail | (refine wpList_store_row rfl 30 (.tmp 4) (.tmp 34) rfl w.heap.size C rfl rfl 30 Z HG1.out HCI.out HZC.out HC1.out ?_))
      refine bodyPost_ret (v := .tuple #[.agg C, .int .i64 0]) (results_row_tmp (fn := Try.f77) (p := 4) (u := 5) (ty := 30) rfl _ _ w.heap.size 30 C (0, 0) _ rfl (setRow_heap _ _ _ _ _ _ HG1.out) Try.underlying30 rfl HCI.out) rfl ⟨by rw [HC.out], ?_⟩
      exact below_setRow HB3.out (Nat.le_refl _) _

set_option maxRecDepth 100000 in
set_option maxHeartbeats 1000000 in
theorem rule_AD (s : Nat) (hs : side s = true) (A B : Array Value) (hA : Wav s A) (hB : Wav s B) (F : Nat → Nat × Nat)
    (hadd : ∀ i, i < s * s → ∀ w, (binOp .add 27 (.complex .f32 (reAt A i) (imAt A i)) (.complex .f32 (reAt B i) (imAt B i))).run Try.prog w = .ok (.complex .f32 (F i).1 (F i).2) w)
    (y x : Nat) (hy : y < s) (hx : x < s) (ga gb : Nat) (w : World) (ha : w.heap[ga]? = some (.cells A 30 (0, 0))) (hb : w.heap[gb]? = some (.cells B 30 (0, 0))) :
    Calls Try.prog 90 #[.int .i64 y, .int .i64 x, .pointer (some ⟨ga, 0, none⟩), .pointer (some ⟨gb, 0, none⟩)] w fun e w' => e = .returned (.complex .f32 (F (s * y + x)).1 (F (s * y + x)).2) ∧ Below w.heap.size w w' := by
  obtain ⟨hk, hk'⟩ := place_lt s y x hs hy hx
  have hlt : s * y + x < s * s := by
    have : s * y + s ≤ s * s := by rw [← Nat.mul_succ]; exact Nat.mul_le_mul_left _ (by omega)
    omega
  obtain ⟨m, n, hz⟩ := hA.2.2 _ hk
  obtain ⟨m2, n2, hz2⟩ := hB.2.2 _ hk
  obtain ⟨r1, r2⟩ := at_of A _ m n hz
  obtain ⟨r3, r4⟩ := at_of B _ m2 n2 hz2
  have hs8 : 1 ≤ s ∧ s ≤ 8 := by rcases side_nat s hs with rfl | rfl | rfl | rfl <;> omega
  have hmul : (s : Int) * (y : Int) = ((s * y : Nat) : Int) := by rw [Int.natCast_mul]
  have HA : Hid (∀ v : World, v.heap[ga]? = some (.cells A 30 (0, 0)) → Calls Try.prog 87 #[.pointer (some ⟨ga, 0, none⟩), .int .i64 y, .int .i64 x] v fun e w' => e = .returned (.complex .f32 m n) ∧ ∃ q, w' = v.drewN q) := Lib.hid fun v hv =>
    at_any ga s A y x (s * y + x) m n hk (by rw [hmul]; exact IntWalk.i64_in _ (by omega)) (by rw [hmul, ← Int.natCast_add]; exact IntWalk.i64_in _ (by omega)) hz hA.2.1 v hv
  have HB : Hid (∀ v : World, v.heap[gb]? = some (.cells B 30 (0, 0)) → Calls Try.prog 87 #[.pointer (some ⟨gb, 0, none⟩), .int .i64 y, .int .i64 x] v fun e w' => e = .returned (.complex .f32 m2 n2) ∧ ∃ q, w' = v.drewN q) := Lib.hid fun v hv =>
    at_any gb s B y x (s * y + x) m2 n2 hk (by rw [hmul]; exact IntWalk.i64_in _ (by omega)) (by rw [hmul, ← Int.natCast_add]; exact IntWalk.i64_in _ (by omega)) hz2 hB.2.1 v hv
  have hsum := hadd _ hlt
  rw [r1, r2, r3, r4] at hsum
  have GA := Lib.hid ha
  have GB := Lib.hid hb
  clear hA hB hadd hz hz2 ha hb r1 r2 r3 r4 hmul hk hk' hlt hs8 hs
  generalize (F (s * y + x)).1 = p at *
  generalize (F (s * y + x)).2 = q at *
  go_enter Try.func90, Try.ntmps90
  go_wp2_with (go_at_call 87; fail)
  refine (HA.out _ GA.out).mono ?_
  rintro e w1 ⟨rfl, q1, rfl⟩
  go_wp2_with (go_at_call 87; fail)
  refine (HB.out (w.drewN q1) GB.out).mono ?_
  rintro e w2 ⟨rfl, q2, rfl⟩
  go_wp2
  go_ret
  exact ⟨rfl, below_drewN (Below.refl _ _) _⟩

set_option maxRecDepth 100000 in
theorem run_two (A B : Array Value) (hA : A.size = 65) (hB : B.size = 65) (w : World) : (Instr.buildSlice 68 2 #[(0, .agg A), (1, .agg B)]).run Try.prog w = .ok (.slice (some ⟨w.heap.size, 0, none⟩) 2 2) (w.alloc (.cells (A ++ B) 30)) := by
  have e : (Try.prog.info? 30).map (fun i => (i.zero.isSome, i.size)) = some (true, 65) := by kernel_rfl
  obtain ⟨i, hi, e2⟩ := Option.map_eq_some_iff.1 e
  have hz : i.zero.isSome = true := congrArg (·.1) e2
  have hs : i.size = 65 := congrArg (·.2) e2
  obtain ⟨z, hz'⟩ := Option.isSome_iff_exists.1 hz
  refine run_buildSlice w _ _ 2 _ (A ++ B) i z Try.underlying68 hi hz' (by rw [hs]; decide) (by rw [hs]; decide) ?_
  rw [hs]
  have h := Great.fill_whole (s := 65) (by omega) [.agg A, .agg B] ((Array.range (2 * 65)).map (z.cells[· % z.cells.size]!)) (fun v hv => by
    simp at hv
    rcases hv with rfl | rfl
    · exact hA
    · exact hB) (by simp)
  refine h.trans ?_
  congr 1
  simp [Value.cells]

theorem wpList_two {ops : Array Oper} {rest : List Oper} {o : Oper} {a : Act} {w : World} {Q : Exit → Act → World → Prop} (hg : o.guard = none) (i j : Tmp) (ho : o.op = .buildSlice 68 2 #[(0, .tmp i), (1, .tmp j)])
    (A B : Array Value) (hA : a.eval (.tmp i) = .agg A) (hB : a.eval (.tmp j) = .agg B) (sA : A.size = 65) (sB : B.size = 65)
    (h : wpList Try.prog ops Q rest (a.put o.dst (.slice (some ⟨w.heap.size, 0, none⟩) 2 2)) (w.alloc (.cells (A ++ B) 30))) : wpList Try.prog ops Q (o :: rest) a w :=
  wpList_plain hg fun _ hK => by
    have e : (#[(0, Operand.tmp i), (1, Operand.tmp j)].map fun (k, x) => (k, a.eval x)) = #[(0, .agg A), (1, .agg B)] := by simp [hA, hB]
    unfold Oper.wp execOp
    simp only [ho, Sem.run_bind, e, run_two A B sA sB, Result.andThen_ok]
    exact hK _ _ h

set_option maxRecDepth 100000 in
set_option maxHeartbeats 2000000 in
theorem implAdd_yes (s : Nat) (hs : side s = true) (D E : Array Value) (hD : Wav s D) (hE : Wav s E) (h1 : isWav s D = true) (h2 : isWav s E = true) (F : Nat → Nat × Nat) (hF : ∀ i, (fin (F i).1 && fin (F i).2) = true)
    (hadd : ∀ i, i < s * s → ∀ w, (binOp .add 27 (.complex .f32 (reAt D i) (imAt D i)) (.complex .f32 (reAt E i) (imAt E i))).run Try.prog w = .ok (.complex .f32 (F i).1 (F i).2) w) (w : World) :
    Calls Try.prog 27 #[.agg D, .agg E] w fun e w' => e = .returned (.tuple #[.agg (pic s (gf F (s * s))), .int .i64 0]) ∧ Below w.heap.size w w' := by
  have HFW : Hid (FinW s (pic s (gf F (s * s)))) := Lib.hid (gf_fin s F hF (s * s))
  have HB : Hid (∀ (v : World) (ga gb : Nat), v.heap[ga]? = some (.cells D 30 (0, 0)) → v.heap[gb]? = some (.cells E 30 (0, 0)) → Calls Try.prog 77 #[.int .i64 s, .func (.func 90) #[] #[.pointer (some ⟨ga, 0, none⟩), .pointer (some ⟨gb, 0, none⟩)]] v fun e w' =>
      e = .returned (.tuple #[.agg (pic s (gf F (s * s))), .int .i64 0]) ∧ Below v.heap.size v w') := Lib.hid fun v ga gb q1 q2 =>
    build2_AD s hs F hF ⟨ga, 0, none⟩ ⟨gb, 0, none⟩ v fun y x z hy hx hz =>
      rule_AD s hs D E hD hE F hadd y x hy hx ga gb z (by rw [hz.block _ (Array.getElem?_eq_some_iff.1 q1).1]; exact q1) (by rw [hz.block _ (Array.getElem?_eq_some_iff.1 q2).1]; exact q2)
  have HCW : Hid (∀ (g : Nat) (v : World), v.heap[g]? = some (.cells (D ++ E) 30 (0, 0)) → Calls Try.prog 89 #[.slice (some ⟨g, 0, none⟩) 2 2] v fun e w' => e = .returned (.int .i64 0) ∧ Below v.heap.size v w') := Lib.hid fun g v hg => checkWaves_two s D E hD hE h1 h2 g v hg
  have hsD := Lib.hid hD.1
  have hsE := Lib.hid hE.1
  generalize pic s (gf F (s * s)) = G at *
  have hz37 := (zero_of_info info37').1
  have HS37 := Lib.hid (zero_of_info info37').2
  have HZ37 : Hid ((pic 0 zc).size = 65) := Lib.hid (pic_size 0 zc zc_size)
  have HZ1 := Lib.hid (zc_one 0)
  have HZW := Lib.hid (wav_zc 0)
  have hne := pic_ne
  generalize pic 0 zc = Z at *
  have HZI : Hid ((Try.prog.info? 30).map (·.size) = some Z.size) := Lib.hid (by rw [HZ37.out]; exact HS37.out)
  have HDI : Hid ((Try.prog.info? 30).map (·.size) = some D.size) := Lib.hid (by rw [hD.1]; exact HS37.out)
  have HEI : Hid ((Try.prog.info? 30).map (·.size) = some E.size) := Lib.hid (by rw [hE.1]; exact HS37.out)
  have HGI : Hid ((Try.prog.info? 30).map (·.size) = some G.size) := Lib.hid (by rw [HFW.out.1]; exact HS37.out)
  have HZG : Hid (Z.size = G.size) := Lib.hid (by rw [HFW.out.1]; exact HZ37.out)
  have HG1 := Lib.hid (finW_one HFW.out)
  have h0 := Lib.hid hD.2.1
  clear hD hE h1 h2 hadd hF
  go_enter Try.func27, Try.ntmps27
  go_upto_region 1 with fail
  have L0 := Lib.hid (lay3 w D E Z)
  generalize ((w.alloc (.cells D 30)).alloc (.cells E 30)).alloc (.cells Z 30) = v at *
  go_wp2_with (first | (refine wpList_load_row rfl 30 (.tmp 2) rfl w.heap.size rfl 30 D (0, 0) _ (L0.out.at 2 rfl) Try.underlying30 rfl HDI.out ?_) | (refine wpList_load_row rfl 30 (.tmp 3) rfl (w.heap.size + 1) rfl 30 E (0, 0) _ (L0.out.at 1 rfl) Try.underlying30 rfl HEI.out ?_) | (refine wpList_two rfl 7 8 rfl D E rfl rfl hsD.out hsE.out ?_) | (go_at_call 89; fail))
  have L1 := Lib.hid (L0.out.alloc (.cells (D ++ E) 30))
  refine (HCW.out _ _ (h1_0 _ _)).mono ?_
  rintro e w2 ⟨rfl, b2⟩
  have L2 := Lib.hid (L1.out.below b2)
  clear b2 L0 L1 HCW
  have c0 : w2.cell? ⟨w.heap.size, 0, none⟩ = some (.int .i64 s) := by rw [L2.out.cell 2 rfl]; exact h0.out
  go_wp2_with (go_at_call 77; fail)
  refine (HB.out _ _ _ (L2.out.at 2 rfl) (L2.out.at 1 rfl)).mono ?_
  rintro e w3 ⟨rfl, b3⟩
  have L3 := Lib.hid (L2.out.below b3)
  clear b3 L2 c0 HB
  go_wp2_with (refine wpList_store_row rfl 30 (.tmp 4) (.tmp 19) rfl (w.heap.size + 1 + 1) G rfl rfl 30 Z (L3.out.at 0 rfl) HGI.out HZG.out HG1.out ?_)
  refine bodyPost_ret (v := .tuple #[.agg G, .int .i64 0]) (results_row_tmp (fn := Try.f27) (p := 4) (u := 5) (ty := 30) rfl _ _ (w.heap.size + 1 + 1) 30 G (0, 0) _ rfl (setRow_heap _ _ _ _ _ _ (L3.out.at 0 rfl)) Try.underlying30 rfl HGI.out) rfl ⟨rfl, ?_⟩
  exact below_setRow L3.out.2 (by omega) _

end Go.Proofs.Ytjmfffgddmnkmab
