/- The new bench: program and model answer the same one, and the law holds it equal to itself. Condition: none. -/
import Derived.Test.YtjmfffgddmnkmacIFl
import Derived.Test.YtjmfffgddmnkmacEqV
import Derived.Test.YtjmfffgddmnkmacEpi
import Derived.Test.YtjmfffgddmnkmacPicI
import Derived.Test.YtjmfffgddmnkmacRes
import Derived.Test.YtjmfffgddmnkmacS3
import Derived.Deep.CutBlock
import Derived.Deep.DeepCutAuto
namespace Go.Proofs.Ytjmfffgddmnkmac
open Go Go.RowKit

/-- the flat wave, the picture and the bench that are new -/
def oneW : Array Value := pic 2 (gf (fun _ => (1065353216, 0)) 4)
def nilP : Array Value := pic 2 zero64
def newB : Array Value := oneW ++ oneW ++ nilP
def zerB : Array Value := pic 0 zc ++ pic 0 zc ++ pic 0 zero64
theorem infoB : (Try.prog.info? 51).map (fun i => (i.zero, i.size)) = some (some (.agg zerB), 195) := by kernel_rfl
theorem built_pic2 (w : World) : (Instr.build 49 #[(0, .int .i64 2)]).run Try.prog w = .ok (.agg nilP) w := run_build w _ _ _ (by kernel_rfl)
theorem built_bench (w : World) : (Instr.build 51 #[(0, .agg oneW), (1, .agg oneW), (2, .agg nilP)]).run Try.prog w = .ok (.agg newB) w := run_build w _ _ _ (by kernel_rfl)
theorem oneW_size : oneW.size = 65 := pic_size _ _ (gf_size _ _)
theorem nilP_size : nilP.size = 65 := pic_size _ _ (by simp [zero64])
theorem newB_size : newB.size = 195 := by unfold newB; rw [Array.size_append, Array.size_append, oneW_size, nilP_size]
theorem zerB_size : zerB.size = 195 := by unfold zerB; rw [Array.size_append, Array.size_append, pic_size 0 zc zc_size, pic_size 0 zero64 (by simp [zero64])]
theorem newB_one : newB.all (·.oneCell') = true := by kernel_rfl
theorem newB_0 : ∀ j, j < oneW.size → newB[0 + j]? = oneW[j]? := fun j hj => by
  unfold newB
  rw [Nat.zero_add, Array.getElem?_append_left (by rw [Array.size_append]; omega), Array.getElem?_append_left hj]
theorem newB_1 : ∀ j, j < oneW.size → newB[65 + j]? = oneW[j]? := fun j hj => by
  unfold newB
  rw [Array.getElem?_append_left (by rw [Array.size_append, oneW_size]; rw [oneW_size] at hj; omega), Array.getElem?_append_right (by rw [oneW_size]; omega), oneW_size, Nat.add_sub_cancel_left]
theorem newB_2 : ∀ j, j < nilP.size → newB[130 + j]? = nilP[j]? := fun j _ => by
  unfold newB
  rw [Array.getElem?_append_right (by rw [Array.size_append, oneW_size]; omega), Array.size_append, oneW_size, show 130 + j - (65 + 65) = j by omega]
theorem nilP_nums : Nums zero64 := ⟨by simp [zero64], fun k hk => ⟨0, notnan_fin 0 (by decide), by simp [zero64, hk]⟩⟩

theorem wpList_built1 {ops : Array Oper} {rest : List Oper} {o : Oper} {a : Act} {w : World} {Q : Exit → Act → World → Prop} (hg : o.guard = none) (ty : TypeId) (k : Int) (ho : o.op = .build ty #[(0, .const (.int .i64 k))]) (cs : Array Value)
    (hb : (Instr.build ty #[(0, .int .i64 k)]).run Try.prog w = .ok (.agg cs) w) (h : wpList Try.prog ops Q rest (a.put o.dst (.agg cs)) w) : wpList Try.prog ops Q (o :: rest) a w :=
  wpList_plain hg fun _ hK => by
    have e : (#[(0, Operand.const (.int .i64 k))].map fun (k, x) => (k, a.eval x)) = #[(0, .int .i64 k)] := by simp [Act.eval]
    unfold Oper.wp execOp
    simp only [ho, Sem.run_bind, e, hb, Result.andThen_ok]
    exact hK _ _ h
theorem wpList_built3 {ops : Array Oper} {rest : List Oper} {o : Oper} {a : Act} {w : World} {Q : Exit → Act → World → Prop} (hg : o.guard = none) (ty : TypeId) (i j l : Tmp) (ho : o.op = .build ty #[(0, .tmp i), (1, .tmp j), (2, .tmp l)]) (A B C : Value)
    (hA : a.eval (.tmp i) = A) (hB : a.eval (.tmp j) = B) (hC : a.eval (.tmp l) = C) (cs : Array Value)
    (hb : (Instr.build ty #[(0, A), (1, B), (2, C)]).run Try.prog w = .ok (.agg cs) w) (h : wpList Try.prog ops Q rest (a.put o.dst (.agg cs)) w) : wpList Try.prog ops Q (o :: rest) a w :=
  wpList_plain hg fun _ hK => by
    have e : (#[(0, Operand.tmp i), (1, Operand.tmp j), (2, Operand.tmp l)].map fun (k, x) => (k, a.eval x)) = #[(0, A), (1, B), (2, C)] := by simp [hA, hB, hC]
    unfold Oper.wp execOp
    simp only [ho, Sem.run_bind, e, hb, Result.andThen_ok]
    exact hK _ _ h

set_option maxRecDepth 100000 in
set_option maxHeartbeats 800000 in
theorem implNb_g (Z ZB F NP NB : Array Value) (hz37 : ∀ w, (zeroValue 33).run Try.prog w = .ok (.agg Z) w) (hzb : ∀ w, (zeroValue 51).run Try.prog w = .ok (.agg ZB) w)
    (hb1 : ∀ w, (Instr.build 49 #[(0, .int .i64 2)]).run Try.prog w = .ok (.agg NP) w) (hb2 : ∀ w, (Instr.build 51 #[(0, .agg F), (1, .agg F), (2, .agg NP)]).run Try.prog w = .ok (.agg NB) w)
    (HFL : Hid (∀ v, Calls Try.prog 13 #[.int .i64 2, .complex .f32 1065353216 0] v fun e w' => e = .returned (.tuple #[.agg F, .int .i64 0]) ∧ Below v.heap.size v w'))
    (HBI : Hid ((Try.prog.info? 51).map (·.size) = some NB.size)) (HZN : Hid (ZB.size = NB.size)) (HN1 : Hid (NB.all (·.oneCell') = true)) (HOI : Hid ((Try.prog.info? 33).map (·.size) = some F.size)) (HZO : Hid (Z.size = F.size)) (HF1 : Hid (F.all (·.oneCell') = true)) (w : World) :
    Calls Try.prog 26 #[] w fun e w' => e = .returned (.agg NB) ∧ Below w.heap.size w w' := by
  go_enter Try.func26, Try.ntmps26
  go_wp2_with fail
  refine (HFL.out _).mono ?_
  rintro e w1 ⟨rfl, b1⟩
  have G1 : Hid (w1.heap[w.heap.size]? = some (.cells ZB 51 (0, 0))) := Lib.hid (by rw [b1.block _ (by rw [size_al]; omega)]; exact h1_0 _ _)
  have B1 : Hid (Below w.heap.size w w1) := Lib.hid (((Below.refl _ _).alloc (Nat.le_refl _) _).trans (b1.mono (by rw [size_al]; omega)))
  have B2 : Hid (Below w.heap.size w (w1.alloc (.cells F 33))) := Lib.hid (B1.out.alloc B1.out.size _)
  have G2 : Hid ((w1.alloc (.cells F 33)).heap[w.heap.size]? = some (.cells ZB 51 (0, 0))) := Lib.hid (by rw [heap_alloc_old _ _ (Array.getElem?_eq_some_iff.1 G1.out).1]; exact G1.out)
  have P2 : Hid ((w1.alloc (.cells F 33)).heap[w1.heap.size]? = some (.cells F 33 (0, 0))) := Lib.hid (h1_0 _ _)
  clear b1 B1 G1 HFL
  go_upto_region 2 with (first | (refine wpList_store_row rfl 33 (.tmp 1) (.tmp 5) rfl w1.heap.size F rfl rfl 33 Z (h1_0 _ _) HOI.out HZO.out HF1.out ?_; rw [World.setRow_alloc_new]))
  generalize w1.alloc (.cells F 33) = v1 at *
  generalize w1.heap.size = g1 at *
  go_wp2_with (first | (refine wpList_built1 rfl 49 2 rfl NP (hb1 _) ?_) | (refine wpList_built3 rfl 51 7 8 9 rfl (.agg F) (.agg F) (.agg NP) rfl rfl rfl NB (hb2 _) ?_) | (refine wpList_load_row rfl 33 (.tmp 1) rfl g1 rfl 33 F (0, 0) _ P2.out Try.underlying33 rfl HOI.out ?_) | (refine wpList_store_row rfl 51 (.tmp 0) (.tmp 10) rfl w.heap.size NB rfl rfl 51 ZB G2.out HBI.out HZN.out HN1.out ?_))
  refine bodyPost_ret (v := .agg NB) (results_cell_row (fn := Try.f26) (p := 0) (ty := 51) rfl _ _ w.heap.size 51 NB (0, 0) _ rfl (setRow_heap _ _ _ _ _ _ G2.out) Try.underlying51 rfl HBI.out) rfl ⟨rfl, ?_⟩
  exact below_setRow B2.out (Nat.le_refl _) _

set_option maxRecDepth 100000 in
set_option maxHeartbeats 800000 in
theorem l12New_g (Z ZB E F NP NB : Array Value) (hz37 : ∀ w, (zeroValue 33).run Try.prog w = .ok (.agg Z) w) (hzb : ∀ w, (zeroValue 51).run Try.prog w = .ok (.agg ZB) w)
    (hb1 : ∀ w, (Instr.build 49 #[(0, .int .i64 2)]).run Try.prog w = .ok (.agg NP) w) (hb2 : ∀ w, (Instr.build 51 #[(0, .agg F), (1, .agg F), (2, .agg NP)]).run Try.prog w = .ok (.agg NB) w)
    (HE : Hid (∀ w, Calls Try.prog 52 #[.int .i64 2] w fun e w' => e = .returned (.agg E) ∧ w' = w.alloc (.cells E 33))) (HEE : Hid (E = pic 2 zc)) (HFF : Hid (F = pic 2 (gf (fun _ => (1065353216, 0)) 4)))
    (HBI : Hid ((Try.prog.info? 51).map (·.size) = some NB.size)) (HZN : Hid (ZB.size = NB.size)) (HN1 : Hid (NB.all (·.oneCell') = true)) (HFI : Hid ((Try.prog.info? 33).map (·.size) = some F.size)) (HEI : Hid ((Try.prog.info? 33).map (·.size) = some E.size)) (HZE : Hid (Z.size = E.size)) (HE1 : Hid (E.all (·.oneCell') = true)) (w : World) :
    Calls Try.prog 63 #[] w fun e w' => e = .returned (.agg NB) ∧ Below w.heap.size w w' := by
  go_enter Try.func63, Try.ntmps63
  go_wp2_with fail
  refine (HE.out _).mono ?_
  rintro e w1 ⟨rfl, rfl⟩
  obtain ⟨v, hv⟩ : ∃ v, v = (w.alloc (.cells ZB 51)).alloc (.cells E 33) := ⟨_, rfl⟩
  have G1 : Hid (v.heap[w.heap.size]? = some (.cells ZB 51 (0, 0))) := Lib.hid (by rw [hv]; exact h2_0 _ _ _)
  have B1 : Hid (Below w.heap.size w v) := Lib.hid (by rw [hv]; exact below_al2 _ _ _)
  rw [← hv]
  clear hv
  have B2 : Hid (Below w.heap.size w (v.alloc (.cells E 33))) := Lib.hid (B1.out.alloc B1.out.size _)
  have G2 : Hid ((v.alloc (.cells E 33)).heap[w.heap.size]? = some (.cells ZB 51 (0, 0))) := Lib.hid (by rw [heap_alloc_old _ _ (Array.getElem?_eq_some_iff.1 G1.out).1]; exact G1.out)
  have P2 : Hid ((v.alloc (.cells E 33)).heap[v.heap.size]? = some (.cells E 33 (0, 0))) := Lib.hid (h1_0 _ _)
  have HLT : Hid (w.heap.size < v.heap.size) := Lib.hid (Array.getElem?_eq_some_iff.1 G1.out).1
  clear G1 B1 HE
  go_wp2_with (first | (refine wpList_store_row rfl 33 (.tmp 1) (.tmp 3) rfl v.heap.size E rfl rfl 33 Z (h1_0 _ _) HEI.out HZE.out HE1.out ?_; rw [World.setRow_alloc_new]))
  generalize v.alloc (.cells E 33) = u at *
  generalize v.heap.size = g at *
  go_loopw [2] (fun i wr => ∃ (k : Nat) (C : Array Value), k ≤ 4 ∧ i = .int .i64 k ∧ Hid (C = pic 2 (gf (fun _ => (1065353216, 0)) k)) ∧ Hid (wr.heap[g]? = some (.cells C 33 (0, 0))) ∧ Hid (wr.heap[w.heap.size]? = some (.cells ZB 51 (0, 0))) ∧ Hid (Below w.heap.size w wr)) (fun i _ => 4 - (intOf i).toNat)
  case atStart => exact ⟨0, E, by omega, rfl, Lib.hid (by rw [HEE.out, gf_zero]), P2, G2, B2⟩
  case round =>
    clear P2 G2 B2
    obtain ⟨k, C, hk, rfl, HC, G, Z0, B⟩ := hrel
    by_cases hlt : k < 4
    · have hold : wr.cell? ⟨g, 1 + k, none⟩ = some (.complex .f32 0 0) := by
        rw [cell_of_row _ _ _ _ _ _ G.out, HC.out]; exact gf_old 2 _ k (by omega)
      have hfree : wr.frozen? ⟨g, 1 + k, none⟩ = false := frozen_of_row _ _ _ _ _ G.out
      have hgw := HLT.out
      go_wp2_with fail
      refine ⟨⟨k + 1, C.setIfInBounds (1 + k) (.complex .f32 1065353216 0), by omega, by go_num, Lib.hid (by rw [HC.out]; exact gf_set 2 (fun _ => (1065353216, 0)) k (by omega)), Lib.hid (heap_setCell_same _ _ _ _ _ _ G.out), Lib.hid (by rw [heap_setCell_other _ _ _ _ (by show w.heap.size ≠ g; omega)]; exact Z0.out), Lib.hid (B.out.setCell (by show w.heap.size ≤ g; omega) _)⟩, by simp [intOf]; omega⟩
    · obtain rfl : k = 4 := by omega
      obtain rfl : C = F := by rw [HC.out, HFF.out]
      clear HC HFF
      go_wp2_with (first | (refine wpList_built1 rfl 49 2 rfl NP (hb1 _) ?_) | (refine wpList_built3 rfl 51 11 12 13 rfl (.agg C) (.agg C) (.agg NP) rfl rfl rfl NB (hb2 _) ?_) | (refine wpList_load_row rfl 33 (.tmp 1) rfl g rfl 33 C (0, 0) _ G.out Try.underlying33 rfl HFI.out ?_) | (refine wpList_store_row rfl 51 (.tmp 0) (.tmp 14) rfl w.heap.size NB rfl rfl 51 ZB Z0.out HBI.out HZN.out HN1.out ?_))
      refine bodyPost_ret (v := .agg NB) (results_cell_row (fn := Try.f63) (p := 0) (ty := 51) rfl _ _ w.heap.size 51 NB (0, 0) _ rfl (setRow_heap _ _ _ _ _ _ Z0.out) Try.underlying51 rfl HBI.out) rfl ⟨rfl, ?_⟩
      exact below_setRow B.out (Nat.le_refl _) _

set_option maxRecDepth 100000 in
set_option maxHeartbeats 800000 in
theorem specNb_g (ZB NB : Array Value) (hzb : ∀ w, (zeroValue 51).run Try.prog w = .ok (.agg ZB) w) (HL : Hid (∀ w, Calls Try.prog 63 #[] w fun e w' => e = .returned (.agg NB) ∧ Below w.heap.size w w'))
    (HBI : Hid ((Try.prog.info? 51).map (·.size) = some NB.size)) (HZN : Hid (ZB.size = NB.size)) (HN1 : Hid (NB.all (·.oneCell') = true)) (w : World) :
    Calls Try.prog 25 #[] w fun e w' => e = .returned (.agg NB) ∧ Below w.heap.size w w' := by
  go_enter Try.func25, Try.ntmps25
  go_wp2_with fail
  refine (HL.out _).mono ?_
  rintro e w1 ⟨rfl, b1⟩
  have G1 : Hid (w1.heap[w.heap.size]? = some (.cells ZB 51 (0, 0))) := Lib.hid (by rw [b1.block _ (by rw [size_al]; omega)]; exact h1_0 _ _)
  have B1 : Hid (Below w.heap.size w w1) := Lib.hid (((Below.refl _ _).alloc (Nat.le_refl _) _).trans (b1.mono (by rw [size_al]; omega)))
  clear b1 HL
  go_wp2_with (refine wpList_store_row rfl 51 (.tmp 0) (.tmp 1) rfl w.heap.size NB rfl rfl 51 ZB G1.out HBI.out HZN.out HN1.out ?_)
  refine bodyPost_ret (v := .agg NB) (results_cell_row (fn := Try.f25) (p := 0) (ty := 51) rfl _ _ w.heap.size 51 NB (0, 0) _ rfl (setRow_heap _ _ _ _ _ _ G1.out) Try.underlying51 rfl HBI.out) rfl ⟨rfl, ?_⟩
  exact below_setRow B1.out (Nat.le_refl _) _

set_option maxRecDepth 100000 in
set_option maxHeartbeats 800000 in
theorem eqBench_g (F NP NB : Array Value) (HOI : Hid ((Try.prog.info? 33).map (·.size) = some F.size)) (HPI : Hid ((Try.prog.info? 49).map (·.size) = some NP.size))
    (H0 : Hid (∀ j, j < F.size → NB[0 + j]? = F[j]?)) (H1 : Hid (∀ j, j < F.size → NB[65 + j]? = F[j]?)) (H2 : Hid (∀ j, j < NP.size → NB[130 + j]? = NP[j]?))
    (HW : Hid (∀ v, Calls Try.prog 64 #[.agg F, .agg F] v fun e w' => e = .returned (.bool true) ∧ Below v.heap.size v w')) (HP : Hid (∀ v, Calls Try.prog 65 #[.agg NP, .agg NP] v fun e w' => e = .returned (.bool true) ∧ Below v.heap.size v w')) (w : World) :
    Calls Try.prog 27 #[.agg NB, .agg NB] w fun e w' => e = .returned (.bool true) ∧ Below w.heap.size w w' := by
  go_enter Try.func27, Try.ntmps27
  go_upto_region 1 with fail
  have P1 : Hid (((w.alloc (.cells NB 51)).alloc (.cells NB 51)).heap[w.heap.size]? = some (.cells NB 51 (0, 0))) := Lib.hid (h2_0 _ _ _)
  have Q1 : Hid (((w.alloc (.cells NB 51)).alloc (.cells NB 51)).heap[w.heap.size + 1]? = some (.cells NB 51 (0, 0))) := Lib.hid (h2_1 _ _ _)
  have B1 : Hid (Below w.heap.size w ((w.alloc (.cells NB 51)).alloc (.cells NB 51))) := Lib.hid (below_al2 _ _ _)
  generalize (w.alloc (.cells NB 51)).alloc (.cells NB 51) = v1 at *
  go_wp2_with (first | fail | (refine wpList_load_part rfl 33 (.tmp 5) rfl w.heap.size 0 rfl F _ 51 NB (0, 0) P1.out H0.out Try.underlying33 rfl HOI.out ?_) | (refine wpList_load_part rfl 33 (.tmp 7) rfl (w.heap.size + 1) 0 rfl F _ 51 NB (0, 0) Q1.out H0.out Try.underlying33 rfl HOI.out ?_))
  refine (HW.out _).mono ?_
  rintro e v2 ⟨rfl, b⟩
  have P2 : Hid (v2.heap[w.heap.size]? = some (.cells NB 51 (0, 0))) := Lib.hid (by rw [b.block _ (Array.getElem?_eq_some_iff.1 P1.out).1]; exact P1.out)
  have Q2 : Hid (v2.heap[w.heap.size + 1]? = some (.cells NB 51 (0, 0))) := Lib.hid (by rw [b.block _ (Array.getElem?_eq_some_iff.1 Q1.out).1]; exact Q1.out)
  have B2 := Lib.hid (B1.out.trans (b.mono B1.out.size))
  clear b P1 Q1 B1
  go_wp2_with (first | fail | (refine wpList_load_part rfl 33 (.tmp 11) rfl w.heap.size 65 rfl F _ 51 NB (0, 0) P2.out H1.out Try.underlying33 rfl HOI.out ?_) | (refine wpList_load_part rfl 33 (.tmp 13) rfl (w.heap.size + 1) 65 rfl F _ 51 NB (0, 0) Q2.out H1.out Try.underlying33 rfl HOI.out ?_))
  refine (HW.out _).mono ?_
  rintro e v3 ⟨rfl, b⟩
  have P3 : Hid (v3.heap[w.heap.size]? = some (.cells NB 51 (0, 0))) := Lib.hid (by rw [b.block _ (Array.getElem?_eq_some_iff.1 P2.out).1]; exact P2.out)
  have Q3 : Hid (v3.heap[w.heap.size + 1]? = some (.cells NB 51 (0, 0))) := Lib.hid (by rw [b.block _ (Array.getElem?_eq_some_iff.1 Q2.out).1]; exact Q2.out)
  have B3 := Lib.hid (B2.out.trans (b.mono B2.out.size))
  clear b P2 Q2 B2
  go_wp2_with (first | fail | (refine wpList_load_part rfl 49 (.tmp 17) rfl w.heap.size 130 rfl NP _ 51 NB (0, 0) P3.out H2.out Try.underlying49 rfl HPI.out ?_) | (refine wpList_load_part rfl 49 (.tmp 19) rfl (w.heap.size + 1) 130 rfl NP _ 51 NB (0, 0) Q3.out H2.out Try.underlying49 rfl HPI.out ?_))
  refine (HP.out _).mono ?_
  rintro e v4 ⟨rfl, b⟩
  have B4 := Lib.hid (B3.out.trans (b.mono B3.out.size))
  clear b P3 Q3 B3
  go_wp2_with fail
  go_ret
  exact ⟨rfl, B4.out⟩

set_option maxRecDepth 100000 in
set_option maxHeartbeats 800000 in
theorem lawNb_g (ZB NB : Array Value) (hzb : ∀ w, (zeroValue 51).run Try.prog w = .ok (.agg ZB) w)
    (HI : Hid (∀ w, Calls Try.prog 26 #[] w fun e w' => e = .returned (.agg NB) ∧ Below w.heap.size w w')) (HM : Hid (∀ w, Calls Try.prog 25 #[] w fun e w' => e = .returned (.agg NB) ∧ Below w.heap.size w w'))
    (HQ : Hid (∀ w, Calls Try.prog 27 #[.agg NB, .agg NB] w fun e w' => e = .returned (.bool true) ∧ Below w.heap.size w w'))
    (HBI : Hid ((Try.prog.info? 51).map (·.size) = some NB.size)) (HZN : Hid (ZB.size = NB.size)) (HN1 : Hid (NB.all (·.oneCell') = true)) (w : World) :
    Calls Try.prog 4 #[] w fun e w' => e = .returned (.bool true) ∧ Below w.heap.size w w' := by
  go_enter Try.func4, Try.ntmps4
  go_wp2_with fail
  refine (HM.out _).mono ?_
  rintro e w1 ⟨rfl, b1⟩
  have B1 := Lib.hid (b1.alloc b1.size (.cells NB 51))
  have P1 : Hid ((w1.alloc (.cells NB 51)).heap[w1.heap.size]? = some (.cells NB 51 (0, 0))) := Lib.hid (h1_0 _ _)
  clear b1
  go_wp2_with (first | fail | (refine wpList_store_row rfl 51 (.tmp 1) (.tmp 3) rfl w1.heap.size NB rfl rfl 51 ZB (h1_0 _ _) HBI.out HZN.out HN1.out ?_; rw [World.setRow_alloc_new]))
  generalize w1.alloc (.cells NB 51) = v1 at *
  generalize w1.heap.size = g1 at *
  refine (HI.out _).mono ?_
  rintro e w2 ⟨rfl, b2⟩
  have P2 : Hid (w2.heap[g1]? = some (.cells NB 51 (0, 0))) := Lib.hid (by rw [b2.block _ (Array.getElem?_eq_some_iff.1 P1.out).1]; exact P1.out)
  have B2 := Lib.hid (B1.out.trans (b2.mono B1.out.size))
  have B3 := Lib.hid (B2.out.alloc B2.out.size (.cells NB 51))
  have P3 : Hid ((w2.alloc (.cells NB 51)).heap[g1]? = some (.cells NB 51 (0, 0))) := Lib.hid (by rw [heap_alloc_old _ _ (Array.getElem?_eq_some_iff.1 P2.out).1]; exact P2.out)
  have Q3 : Hid ((w2.alloc (.cells NB 51)).heap[w2.heap.size]? = some (.cells NB 51 (0, 0))) := Lib.hid (h1_0 _ _)
  clear b2 P1 B1 P2 B2
  go_wp2_with (first | fail | (refine wpList_store_row rfl 51 (.tmp 2) (.tmp 4) rfl w2.heap.size NB rfl rfl 51 ZB (h1_0 _ _) HBI.out HZN.out HN1.out ?_; rw [World.setRow_alloc_new]) | (refine wpList_load_row rfl 51 (.tmp 2) rfl w2.heap.size rfl 51 NB (0, 0) _ Q3.out Try.underlying51 rfl HBI.out ?_) | (refine wpList_load_row rfl 51 (.tmp 1) rfl g1 rfl 51 NB (0, 0) _ P3.out Try.underlying51 rfl HBI.out ?_))
  refine (HQ.out _).mono ?_
  rintro e w4 ⟨rfl, b4⟩
  have B4 := Lib.hid (B3.out.trans (b4.mono B3.out.size))
  clear b4 B3 P3 Q3
  go_wp2_with fail
  go_ret
  exact ⟨rfl, B4.out⟩

theorem newB_info : (Try.prog.info? 51).map (·.size) = some newB.size := by rw [newB_size]; exact (zero_of_info infoB).2
theorem oneW_info : (Try.prog.info? 33).map (·.size) = some oneW.size := by rw [oneW_size]; exact (zero_of_info info37').2
theorem nilP_info : (Try.prog.info? 49).map (·.size) = some nilP.size := by rw [nilP_size]; exact (zero_of_info info32).2
theorem zerB_newB : zerB.size = newB.size := by rw [zerB_size, newB_size]
theorem oneW_one : oneW.all (·.oneCell') = true := by kernel_rfl
theorem flat_one (v : World) : Calls Try.prog 13 #[.int .i64 2, .complex .f32 1065353216 0] v fun e w' => e = .returned (.tuple #[.agg oneW, .int .i64 0]) ∧ Below v.heap.size v w' := implFlat_yes 2 1065353216 0 (by decide) (by decide) v
theorem implNb (w : World) : Calls Try.prog 26 #[] w fun e w' => e = .returned (.agg newB) ∧ Below w.heap.size w w' :=
  implNb_g (pic 0 zc) zerB oneW nilP newB (zero_of_info info37').1 (zero_of_info infoB).1 built_pic2 built_bench (Lib.hid flat_one) (Lib.hid newB_info) (Lib.hid zerB_newB) (Lib.hid newB_one) (Lib.hid oneW_info) (Lib.hid ((pic_size 0 zc zc_size).trans oneW_size.symm)) (Lib.hid oneW_one) w
theorem specNb (w : World) : Calls Try.prog 25 #[] w fun e w' => e = .returned (.agg newB) ∧ Below w.heap.size w w' :=
  specNb_g zerB newB (zero_of_info infoB).1 (Lib.hid fun v => l12New_g (pic 0 zc) zerB (pic 2 zc) oneW nilP newB (zero_of_info info37').1 (zero_of_info infoB).1 built_pic2 built_bench (Lib.hid (empty_any 2)) (Lib.hid rfl) (Lib.hid rfl) (Lib.hid newB_info) (Lib.hid zerB_newB) (Lib.hid newB_one) (Lib.hid oneW_info) (Lib.hid (by rw [pic_size _ _ zc_size]; exact (zero_of_info info37').2)) (Lib.hid (by rw [pic_size _ _ zc_size, pic_size _ _ zc_size])) (Lib.hid (zc_one 2)) v) (Lib.hid newB_info) (Lib.hid zerB_newB) (Lib.hid newB_one) w
theorem eqBench_new (w : World) : Calls Try.prog 27 #[.agg newB, .agg newB] w fun e w' => e = .returned (.bool true) ∧ Below w.heap.size w w' :=
  eqBench_g oneW nilP newB (Lib.hid oneW_info) (Lib.hid nilP_info) (Lib.hid newB_0) (Lib.hid newB_1) (Lib.hid newB_2) (Lib.hid fun v => eqWave_refl 2 _ (gf_cells _ (fun _ => by decide) 4) v) (Lib.hid fun v => eqPic_refl 2 _ nilP_nums v) w
theorem lawNb (w : World) : Calls Try.prog 4 #[] w fun e w' => e = .returned (.bool true) ∧ Below w.heap.size w w' :=
  lawNb_g zerB newB (zero_of_info infoB).1 (Lib.hid implNb) (Lib.hid specNb) (Lib.hid eqBench_new) (Lib.hid newB_info) (Lib.hid zerB_newB) (Lib.hid newB_one) w

end Go.Proofs.Ytjmfffgddmnkmac
