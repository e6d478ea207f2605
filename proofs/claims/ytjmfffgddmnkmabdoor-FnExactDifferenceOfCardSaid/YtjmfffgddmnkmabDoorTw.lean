/- Two pictures looked at, in the program and in the model: are they pictures, and of one side? Condition: 64 floats each. -/
import Derived.Test.YtjmfffgddmnkmabDoorLawP
import Derived.Test.YtjmfffgddmnkmabDoorRes
import Derived.Great.BuildSlice
import Derived.Deep.QuietTactic
import Derived.BigQuiet
import Derived.Deep.CutBlock
import Derived.Deep.DeepCutAuto
namespace Go.Proofs.YtjmfffgddmnkmabDoor
open Go Go.RowKit

/-- the code of two pictures -/
def codeTwo (s u : Int) (zs ys : Array Value) : Int := if shown s zs && shown u ys then (if s != u then 2 else 0) else 1
theorem codeTwo_a (s u : Int) (zs ys : Array Value) (h : shown s zs = false) : codeTwo s u zs ys = 1 := by unfold codeTwo; rw [h]; rfl
theorem codeTwo_b (s u : Int) (zs ys : Array Value) (h : shown s zs = true) (h2 : shown u ys = false) : codeTwo s u zs ys = 1 := by unfold codeTwo; rw [h, h2]; rfl
theorem codeTwo_c (s u : Int) (zs ys : Array Value) (h : shown s zs = true) (h2 : shown u ys = true) : codeTwo s u zs ys = if s != u then 2 else 0 := by unfold codeTwo; rw [h, h2]; rfl

set_option maxRecDepth 100000 in
set_option maxHeartbeats 1000000 in
theorem l05Two_any (s u : Int) (zs ys : Array Value) (hz : Floats zs) (hy : Floats ys) (w : World) : Calls Tryd.prog 43 #[.agg (pic s zs), .agg (pic u ys)] w fun e w' => e = .returned (.int .i64 (codeTwo s u zs ys)) ∧ Below w.heap.size w w' := by
  have HS := Lib.hid (size32 s zs hz)
  have HU := Lib.hid (size32 u ys hy)
  have h1 := shown_any s zs hz
  have h2 := shown_any u ys hy
  have hA0 := Lib.hid (pic_zero s zs)
  have hB0 := Lib.hid (pic_zero u ys)
  have KA := Lib.hid (codeTwo_a s u zs ys)
  have KB := Lib.hid (codeTwo_b s u zs ys)
  have KC := Lib.hid (codeTwo_c s u zs ys)
  generalize codeTwo s u zs ys = K at *
  generalize pic s zs = cs at *
  generalize pic u ys = ds at *
  have H1 := Lib.hid h1
  have H2 := Lib.hid h2
  clear h1 h2 hz hy
  go_enter Tryd.func43, Tryd.ntmps43
  go_upto_region 1 with fail
  have P0 : Hid (((w.alloc (.cells cs 36)).alloc (.cells ds 36)).heap[w.heap.size]? = some (.cells cs 36 (0, 0))) := Lib.hid (h2_0 _ _ _)
  have Q0 : Hid (((w.alloc (.cells cs 36)).alloc (.cells ds 36)).heap[w.heap.size + 1]? = some (.cells ds 36 (0, 0))) := Lib.hid (h2_1 _ _ _)
  have B0 : Hid (Below w.heap.size w ((w.alloc (.cells cs 36)).alloc (.cells ds 36))) := Lib.hid (below_al2 _ _ _)
  generalize (w.alloc (.cells cs 36)).alloc (.cells ds 36) = v at *
  go_wp2_with (first | fail | (refine wpList_load_row rfl 36 (.tmp 2) rfl w.heap.size rfl 36 cs (0, 0) _ P0.out Tryd.underlying36 rfl HS.out ?_))
  refine (H1.out _).mono ?_
  rintro e w1 ⟨rfl, b1⟩
  have P1 : Hid (w1.heap[w.heap.size]? = some (.cells cs 36 (0, 0))) := Lib.hid (by rw [b1.block _ (Array.getElem?_eq_some_iff.1 P0.out).1]; exact P0.out)
  have Q1 : Hid (w1.heap[w.heap.size + 1]? = some (.cells ds 36 (0, 0))) := Lib.hid (by rw [b1.block _ (Array.getElem?_eq_some_iff.1 Q0.out).1]; exact Q0.out)
  have B1 : Hid (Below w.heap.size w w1) := Lib.hid (B0.out.trans (b1.mono B0.out.size))
  clear b1 P0 Q0 B0
  cases e1 : shown s zs
  · have HK := Lib.hid (KA.out e1)
    clear e1
    go_wp2
    go_ret
    exact ⟨by rw [HK.out]; rfl, B1.out⟩
  go_wp2_with (first | fail | (refine wpList_load_row_g rfl 36 (.tmp 3) rfl (w.heap.size + 1) rfl 36 ds (0, 0) _ Q1.out Tryd.underlying36 rfl HU.out ?_))
  refine (H2.out _).mono ?_
  rintro e w2 ⟨rfl, b2⟩
  have P2 : Hid (w2.heap[w.heap.size]? = some (.cells cs 36 (0, 0))) := Lib.hid (by rw [b2.block _ (Array.getElem?_eq_some_iff.1 P1.out).1]; exact P1.out)
  have Q2 : Hid (w2.heap[w.heap.size + 1]? = some (.cells ds 36 (0, 0))) := Lib.hid (by rw [b2.block _ (Array.getElem?_eq_some_iff.1 Q1.out).1]; exact Q1.out)
  have B2 : Hid (Below w.heap.size w w2) := Lib.hid (B1.out.trans (b2.mono B1.out.size))
  clear b2 P1 Q1 B1
  cases e2 : shown u ys
  · have HK := Lib.hid (KB.out e1 e2)
    clear e1 e2
    go_wp2
    go_ret
    exact ⟨by rw [HK.out]; rfl, B2.out⟩
  have HK := Lib.hid (KC.out e1 e2)
  have c0 : w2.cell? ⟨w.heap.size, 0, none⟩ = some (.int .i64 s) := by rw [cell_of_row _ _ _ _ _ _ P2.out]; exact hA0.out
  have d0 : w2.cell? ⟨w.heap.size + 1, 0, none⟩ = some (.int .i64 u) := by rw [cell_of_row _ _ _ _ _ _ Q2.out]; exact hB0.out
  cases e3 : s != u
  · rw [e3] at HK
    clear e1 e2
    go_wp2
    go_ret
    exact ⟨by rw [HK.out]; rfl, B2.out⟩
  · rw [e3] at HK
    clear e1 e2
    go_wp2
    go_ret
    exact ⟨by rw [HK.out]; rfl, B2.out⟩

set_option maxRecDepth 100000 in
theorem run_twoP (A B : Array Value) (hA : A.size = 65) (hB : B.size = 65) (w : World) : (Instr.buildSlice 99 2 #[(0, .agg A), (1, .agg B)]).run Tryd.prog w = .ok (.slice (some ⟨w.heap.size, 0, none⟩) 2 2) (w.alloc (.cells (A ++ B) 36 )) := by
  have e : (Tryd.prog.info? 36 ).map (fun i => (i.zero.isSome, i.size)) = some (true, 65) := by kernel_rfl
  obtain ⟨i, hi, e2⟩ := Option.map_eq_some_iff.1 e
  have hz : i.zero.isSome = true := congrArg (·.1) e2
  have hs : i.size = 65 := congrArg (·.2) e2
  obtain ⟨z, hz'⟩ := Option.isSome_iff_exists.1 hz
  refine run_buildSlice w _ _ 2 _ (A ++ B) i z Tryd.underlying99 hi hz' (by rw [hs]; decide) (by rw [hs]; decide) ?_
  rw [hs]
  have h := Great.fill_whole (s := 65) (by omega) [.agg A, .agg B] ((Array.range (2 * 65)).map (z.cells[· % z.cells.size]!)) (fun v hv => by
    simp at hv
    rcases hv with rfl | rfl
    · exact hA
    · exact hB) (by simp)
  refine h.trans ?_
  congr 1
  simp [Value.cells]

theorem wpList_twoP {ops : Array Oper} {rest : List Oper} {o : Oper} {a : Act} {w : World} {Q : Exit → Act → World → Prop} (hg : o.guard = none) (i j : Tmp) (ho : o.op = .buildSlice 99 2 #[(0, .tmp i), (1, .tmp j)])
    (A B : Array Value) (hA : a.eval (.tmp i) = .agg A) (hB : a.eval (.tmp j) = .agg B) (sA : A.size = 65) (sB : B.size = 65)
    (h : wpList Tryd.prog ops Q rest (a.put o.dst (.slice (some ⟨w.heap.size, 0, none⟩) 2 2)) (w.alloc (.cells (A ++ B) 36 ))) : wpList Tryd.prog ops Q (o :: rest) a w :=
  wpList_plain hg fun _ hK => by
    have e : (#[(0, Operand.tmp i), (1, Operand.tmp j)].map fun (k, x) => (k, a.eval x)) = #[(0, .agg A), (1, .agg B)] := by simp [hA, hB]
    unfold Oper.wp execOp
    simp only [ho, Sem.run_bind, e, run_twoP A B sA sB, Result.andThen_ok]
    exact hK _ _ h

/-- what lies while pictures are looked at: the list at g -/
def Cp (g : Nat) (C : Array Value) (w v : World) : Prop := v.heap[g]? = some (.cells C 36 (0, 0)) ∧ Below w.heap.size w v
theorem Cp.below {g : Nat} {C : Array Value} {w v u : World} (h : Cp g C w v) (k : Below v.heap.size v u) : Cp g C w u :=
  ⟨by rw [k.block _ (Array.getElem?_eq_some_iff.1 h.1).1]; exact h.1, h.2.trans (k.mono h.2.size)⟩
theorem Cp.alloc {g : Nat} {C : Array Value} {w v : World} (h : Cp g C w v) (o : Obj) : Cp g C w (v.alloc o) :=
  h.below ((Below.refl _ _).alloc (Nat.le_refl _) o)

set_option maxRecDepth 100000 in
set_option maxHeartbeats 4000000 in
theorem checkPictures_two (s u : Int) (zs ys : Array Value) (hz : Floats zs) (hy : Floats ys) (g : Nat) (w : World) (hg : w.heap[g]? = some (.cells (pic s zs ++ pic u ys) 36 (0, 0))) :
    Calls Tryd.prog 45 #[.slice (some ⟨g, 0, none⟩) 2 2] w fun e w' => e = .returned (.int .i64 (codeTwo s u zs ys)) ∧ Below w.heap.size w w' := by
  have hz32 := (zero_of_info info32).1
  have HZ32 : Hid ((pic 0 zero64).size = 65) := Lib.hid (pic_size 0 zero64 (by simp [zero64]))
  have hne : ¬ pic 0 zero64 = #[] := fun e => by
    have := congrArg Array.size e
    rw [pic_size 0 zero64 (by simp [zero64])] at this
    simp at this
  have HAI := Lib.hid (size32 s zs hz)
  have HBI := Lib.hid (size32 u ys hy)
  have HA65 : (pic s zs).size = 65 := pic_size s zs hz.1
  have HB65 : (pic u ys).size = 65 := pic_size u ys hy.1
  have HZA : Hid ((pic 0 zero64).size = (pic s zs).size) := Lib.hid (by rw [HA65]; exact HZ32.out)
  have HZB : Hid ((pic 0 zero64).size = (pic u ys).size) := Lib.hid (by rw [HB65]; exact HZ32.out)
  have HA1 := Lib.hid (pic_one s zs hz)
  have HB1 := Lib.hid (pic_one u ys hy)
  have HIA := Lib.hid (impl_any s zs hz)
  have HIB := Lib.hid (impl_any u ys hy)
  have hA0 := Lib.hid (pic_zero s zs)
  have hB0 := Lib.hid (pic_zero u ys)
  have KA := Lib.hid (codeTwo_a s u zs ys)
  have KB := Lib.hid (codeTwo_b s u zs ys)
  have KC := Lib.hid (codeTwo_c s u zs ys)
  generalize codeTwo s u zs ys = K at *
  generalize pic s zs = A at *
  generalize pic u ys = B at *
  have HGA : Hid (∀ j, j < A.size → (A ++ B)[0 + j]? = A[j]?) := Lib.hid fun j hj => by rw [Nat.zero_add, Array.getElem?_append_left hj]
  have HGB : Hid (∀ j, j < B.size → (A ++ B)[65 + j]? = B[j]?) := Lib.hid fun j hj => by rw [Array.getElem?_append_right (by rw [HA65]; omega), HA65, Nat.add_sub_cancel_left]
  have h0 : Hid ((A ++ B)[0]? = some (.int .i64 s)) := Lib.hid (by rw [Array.getElem?_append_left (by rw [HA65]; omega)]; exact hA0.out)
  generalize pic 0 zero64 = Z at *
  have K0 : Hid (Cp g (A ++ B) w w) := Lib.hid ⟨hg, Below.refl _ _⟩
  generalize A ++ B = C at *
  have hss : (s != s) = false := by simp
  clear hg hz hy HA65 HB65
  go_enter Tryd.func45, Tryd.ntmps45
  go_wp2_with fail
  refine wp_loop_rounds 3 ?_
  rw [rounds_succ]
  go_upto_region 4 with (first | (refine wpList_load_part rfl 36 (.tmp 11) rfl g 0 rfl A _ 36 C (0, 0) K0.out.1 HGA.out Tryd.underlying36 rfl HAI.out ?_) | (refine wpList_store_row rfl 36 (.tmp 4) (.tmp 12) rfl w.heap.size A rfl rfl 36 Z (h1_0 _ _) HAI.out HZA.out HA1.out ?_; rw [World.setRow_alloc_new]))
  have K1 := Lib.hid (K0.out.alloc (.cells A 36 ))
  have R1 : Hid ((w.alloc (.cells A 36 )).heap[w.heap.size]? = some (.cells A 36 (0, 0))) := Lib.hid (h1_0 _ _)
  generalize hv1 : w.alloc (.cells A 36 ) = v1 at *
  clear hv1 K0
  go_wp2_with (first | fail | (refine wpList_load_row rfl 36 (.tmp 4) rfl w.heap.size rfl 36 A (0, 0) _ R1.out Tryd.underlying36 rfl HAI.out ?_))
  refine (HIA.out _).mono ?_
  rintro e u1 ⟨rfl, b1⟩
  have K2 := Lib.hid (K1.out.below b1)
  clear b1 R1 K1
  cases e1 : shown s zs
  · have HK := Lib.hid (KA.out e1)
    clear e1
    go_wp2
    go_ret
    exact ⟨by rw [HK.out]; rfl, K2.out.2⟩
  go_wp2_with fail
  rw [rounds_succ]
  go_upto_region 4 with (first | (refine wpList_load_part rfl 36 (.tmp 11) rfl g 65 rfl B _ 36 C (0, 0) K2.out.1 HGB.out Tryd.underlying36 rfl HBI.out ?_) | (refine wpList_store_row rfl 36 (.tmp 4) (.tmp 12) rfl u1.heap.size B rfl rfl 36 Z (h1_0 _ _) HBI.out HZB.out HB1.out ?_; rw [World.setRow_alloc_new]))
  have K3 := Lib.hid (K2.out.alloc (.cells B 36 ))
  have R3 : Hid ((u1.alloc (.cells B 36 )).heap[u1.heap.size]? = some (.cells B 36 (0, 0))) := Lib.hid (h1_0 _ _)
  generalize u1.alloc (.cells B 36 ) = v2 at *
  generalize u1.heap.size = a2 at *
  clear K2
  go_wp2_with (first | fail | (refine wpList_load_row rfl 36 (.tmp 4) rfl a2 rfl 36 B (0, 0) _ R3.out Tryd.underlying36 rfl HBI.out ?_))
  refine (HIB.out _).mono ?_
  rintro e u2 ⟨rfl, b2⟩
  have K4 := Lib.hid (K3.out.below b2)
  clear b2 R3 K3
  cases e2 : shown u ys
  · have HK := Lib.hid (KB.out e1 e2)
    clear e1 e2
    go_wp2
    go_ret
    exact ⟨by rw [HK.out]; rfl, K4.out.2⟩
  have HK := Lib.hid (KC.out e1 e2)
  clear e1 e2
  go_wp2_with fail
  rw [rounds_succ]
  go_wp2_with fail
  refine wp_loop_rounds 3 ?_
  rw [rounds_succ]
  go_upto_region 10 with (first | (refine wpList_load_part rfl 36 (.tmp 21) rfl g 0 rfl A _ 36 C (0, 0) K4.out.1 HGA.out Tryd.underlying36 rfl HAI.out ?_) | (refine wpList_store_row rfl 36 (.tmp 6) (.tmp 22) rfl u2.heap.size A rfl rfl 36 Z (h1_0 _ _) HAI.out HZA.out HA1.out ?_; rw [World.setRow_alloc_new]))
  have K5 := Lib.hid (K4.out.alloc (.cells A 36 ))
  have R5 : Hid ((u2.alloc (.cells A 36 )).heap[u2.heap.size]? = some (.cells A 36 (0, 0))) := Lib.hid (h1_0 _ _)
  generalize u2.alloc (.cells A 36 ) = v5 at *
  generalize u2.heap.size = a5 at *
  have c5 : v5.cell? ⟨a5, 0, none⟩ = some (.int .i64 s) := by rw [cell_of_row _ _ _ _ _ _ R5.out]; exact hA0.out
  have d5 : v5.cell? ⟨g, 0, none⟩ = some (.int .i64 s) := by rw [cell_of_row _ _ _ _ _ _ K5.out.1]; exact h0.out
  go_quiet (fail)
  have Q5 := Lib.hid (K5.out.below (below_drewN (Below.refl _ _) nq))
  clear K5 R5
  generalize v5.drewN nq = z5 at *
  clear c5 d5
  go_wp2_with fail
  rw [rounds_succ]
  go_upto_region 10 with (first | (refine wpList_load_part rfl 36 (.tmp 21) rfl g 65 rfl B _ 36 C (0, 0) Q5.out.1 HGB.out Tryd.underlying36 rfl HBI.out ?_) | (refine wpList_store_row rfl 36 (.tmp 6) (.tmp 22) rfl z5.heap.size B rfl rfl 36 Z (h1_0 _ _) HBI.out HZB.out HB1.out ?_; rw [World.setRow_alloc_new]))
  have K6 := Lib.hid (Q5.out.alloc (.cells B 36 ))
  have R6 : Hid ((z5.alloc (.cells B 36 )).heap[z5.heap.size]? = some (.cells B 36 (0, 0))) := Lib.hid (h1_0 _ _)
  generalize z5.alloc (.cells B 36 ) = v6 at *
  generalize z5.heap.size = a6 at *
  have c6 : v6.cell? ⟨a6, 0, none⟩ = some (.int .i64 u) := by rw [cell_of_row _ _ _ _ _ _ R6.out]; exact hB0.out
  have d6 : v6.cell? ⟨g, 0, none⟩ = some (.int .i64 s) := by rw [cell_of_row _ _ _ _ _ _ K6.out.1]; exact h0.out
  have hus : (u != s) = (s != u) := by rw [bne_comm]
  go_quiet (fail)
  have B6 := Lib.hid (below_drewN K6.out.2 nq)
  clear c6 d6 K6 R6 Q5
  generalize v6.drewN nq = z6 at *
  cases e3 : s != u
  · rw [e3] at HK hus
    clear e3
    go_wp2_with fail
    rw [rounds_succ]
    go_wp2
    go_ret
    exact ⟨by rw [HK.out]; rfl, B6.out⟩
  · rw [e3] at HK hus
    clear e3
    go_wp2
    go_ret
    exact ⟨by rw [HK.out]; rfl, B6.out⟩
end Go.Proofs.YtjmfffgddmnkmabDoor
