/- The door of waves behind which what is not finite is a panic. Condition: the error's variable holds a pointer to the library's error. -/
import Derived.Test.YtjmfffgddmnkmabDoorDo
import Derived.Test.YtjmfffgddmnkmabDoorM32
namespace Go.Proofs.YtjmfffgddmnkmabDoor
open Go Go.RowKit

set_option maxRecDepth 100000 in
theorem catchW_panicking (p a : Addr) (x : Int) (older : List PanicEntry) (w : World) (hE : Err a w) (hc : w.cell? p = some (.int .i64 x)) (hz : w.frozen? p = false) :
    CallsD Tryd.prog 66 #[.pointer (some p)] (.panicking ({ v := errV a, recovered := false } :: older)) w fun e u' w' =>
      e = .returned (.tuple #[]) ∧ u' = .panicking ({ v := errV a, recovered := true } :: older) ∧ w' = w.setCell p (.int .i64 3) := by
  unfold Err at hE
  unfold errV at *
  have hA := hasErr
  refine callsD_of_wpS Tryd.func66 rfl fun c₀ cs hu => ?_
  apply wpS_seq
  apply wpS_region
  simp [wpOpsS, go_sem, recoverD, hu, Tryd.ntmps66, Exit.thenS, hA]
  refine wpS_ends (v := w.setCell p (.int .i64 3)) ?_ ?_
  · have hT : (#[Value.pointer (some p)] ++ (((((((Array.replicate 13 undef).setIfInBounds 3 (.iface 159 (.pointer (some a)))).setIfInBounds 4 (.tuple #[.iface 159 (.pointer (some a)), .bool true])).setIfInBounds 2 (.tuple #[.iface 159 (.pointer (some a)), .bool true])).setIfInBounds 5 (.iface 159 (.pointer (some a)))).setIfInBounds 6 (.bool true)).setIfInBounds 0 (.iface 159 (.pointer (some a)))).setIfInBounds 1 (.bool true)) = #[.pointer (some p), .iface 159 (.pointer (some a)), .bool true, .tuple #[.iface 159 (.pointer (some a)), .bool true], .iface 159 (.pointer (some a)), .tuple #[.iface 159 (.pointer (some a)), .bool true], .iface 159 (.pointer (some a)), .bool true, undef, undef, undef, undef, undef, undef] := by kernel_rfl
    rw [hT]
    clear hT hu hA
    go_wp2_with (go_at_call 64; refine (is_same _ _).mono ?_; rintro e w' ⟨rfl, rfl⟩)
    exact ⟨rfl, rfl, rfl⟩
  · intro a' hd
    exact ⟨hd, _, rfl, .tuple #[], by simp [results, Tryd.results66], rfl, rfl, rfl⟩

set_option maxRecDepth 100000 in
theorem catchW_idle (p : Addr) (w : World) :
    CallsD Tryd.prog 66 #[.pointer (some p)] .returning w fun e u' w' =>
      e = .returned (.tuple #[]) ∧ u' = .returning ∧ w' = w := by
  have hA := nilErr
  refine callsD_of_wpS Tryd.func66 rfl fun c₀ cs hu => ?_
  apply wpS_seq
  apply wpS_region
  simp [wpOpsS, go_sem, recoverD, hu, Tryd.ntmps66, Exit.thenS, hA]
  refine wpS_ends (v := w) ?_ ?_
  · have hT : (#[Value.pointer (some p)] ++ (((((((Array.replicate 13 undef).setIfInBounds 3 .nilIface).setIfInBounds 4 (.tuple #[.nilIface, .bool false])).setIfInBounds 2 (.tuple #[.nilIface, .bool false])).setIfInBounds 5 .nilIface).setIfInBounds 6 (.bool false)).setIfInBounds 0 .nilIface).setIfInBounds 1 (.bool false)) = #[.pointer (some p), .nilIface, .bool false, .tuple #[.nilIface, .bool false], .nilIface, .tuple #[.nilIface, .bool false], .nilIface, .bool false, undef, undef, undef, undef, undef, undef] := by kernel_rfl
    rw [hT]
    clear hT hu hA
    go_wp2
    exact ⟨rfl, rfl, rfl⟩
  · intro a' hd
    refine ⟨hd, .returning, ?_, .tuple #[], by simp [results, Tryd.results66], rfl, rfl, rfl⟩
    cases c₀
    simp_all

theorem results_row_cell {P : Program} {fn : Func} {p c : Tmp} {ty tc : TypeId} (h : fn.results = #[.cell p ty, .cell c tc]) (tmps : Array Value) (w : World) (g q : Nat) (cs : Array Value) (v : Value)
    (hp : tmps.getD p undef = .pointer (some ⟨g, 0, none⟩)) (hc : tmps.getD c undef = .pointer (some ⟨q, 0, none⟩)) (hr : (loadVar ty ⟨g, 0, none⟩).run P w = .ok (.agg cs) w) (hv : (loadVar tc ⟨q, 0, none⟩).run P w = .ok v w) :
    (results fn tmps).run P w = .ok (.tuple #[.agg cs, v]) w := by
  have hp' : tmps[p]?.getD undef = .pointer (some ⟨g, 0, none⟩) := by simpa using hp
  have hc' : tmps[c]?.getD undef = .pointer (some ⟨q, 0, none⟩) := by simpa using hc
  simp [results, h, hp', hc', asAddr, hr, hv]

set_option maxRecDepth 100000 in
set_option maxHeartbeats 400000 in
/-- the walk behind the door returns -/
theorem doorW_yes (f : FuncId) (c1 c2 : Value) (A : Array Value) (hA : A.size = 65) (hA1 : A.all (·.oneCell') = true) (w : World) (hF : ∀ v, (callFunc f #[c1, c2]).run Tryd.prog v = .ok (.enter f #[c1, c2]) v)
    (HW : Hid (∀ v, Below w.heap.size w v → Calls Tryd.prog f #[c1, c2] v fun e w' => e = .returned (.agg A) ∧ Below v.heap.size v w')) :
    Calls Tryd.prog 37 #[.func (.func f) #[] #[c1, c2]] w fun e w' => e = .returned (.tuple #[.agg A, .int .i64 0]) ∧ Below w.heap.size w w' := by
  have hmf : ∀ (fn : Fn) (first cap : Array Value) (w : World), (Instr.makeFunc fn first cap).run Tryd.prog w = .ok (.func fn first cap) w := fun _ _ _ _ => rfl
  have hz37 := (zero_of_info info37').1
  have HS37 := Lib.hid (zero_of_info info37').2
  have HZ37 : Hid ((pic 0 zc).size = A.size) := Lib.hid (by rw [hA]; exact pic_size 0 zc zc_size)
  have HAI : Hid ((Tryd.prog.info? 25).map (·.size) = some A.size) := Lib.hid (by rw [hA]; exact HS37.out)
  have HA1 := Lib.hid hA1
  have hne := pic_ne
  generalize pic 0 zc = Z at *
  clear hA hA1
  go_enter_defers Tryd.func37, Tryd.ntmps37
  go_wp2_with fail
  have B0 : Below w.heap.size w ((w.alloc (.cells Z 25)).alloc (.cells #[.int .i64 5] 2)) := below_al2 _ _ _
  refine (HW.out _ B0).mono ?_
  rintro e w1 ⟨rfl, b1⟩
  have C0 : Hid (w1.heap[w.heap.size]? = some (.cells Z 25 (0, 0))) := Lib.hid (by rw [b1.block _ (by rw [size_al, size_al]; omega)]; exact h2_0 _ _ _)
  have C1 : Hid (w1.heap[w.heap.size + 1]? = some (.cells #[.int .i64 5] 2 (0, 0))) := Lib.hid (by rw [b1.block _ (by rw [size_al, size_al]; omega)]; exact h2_1 _ _ _)
  have B1 : Hid (Below w.heap.size w w1) := Lib.hid (B0.trans (b1.mono (by rw [size_al, size_al]; omega)))
  clear b1 B0 HW hF hmf
  have C2 : Hid ((w1.setRow w.heap.size A).heap[w.heap.size + 1]? = some (.cells #[.int .i64 5] 2 (0, 0))) := Lib.hid (by rw [heap_setRow_other _ _ _ _ (by omega)]; exact C1.out)
  have C3 : Hid ((w1.setRow w.heap.size A).heap[w.heap.size]? = some (.cells A 25 (0, 0))) := Lib.hid (setRow_heap _ _ _ _ _ _ C0.out)
  have B2 : Hid (Below w.heap.size w (w1.setRow w.heap.size A)) := Lib.hid (below_setRow B1.out (Nat.le_refl _) _)
  have hc : (w1.setRow w.heap.size A).cell? ⟨w.heap.size + 1, 0, none⟩ = some (.int .i64 5) := by rw [cell_of_row _ _ _ _ _ _ C2.out]; rfl
  have hz : (w1.setRow w.heap.size A).frozen? ⟨w.heap.size + 1, 0, none⟩ = false := frozen_of_row _ _ _ _ _ C2.out
  go_wp2_with (first | fail | (refine wpList_store_row rfl 25 (.tmp 2) (.tmp 6) rfl w.heap.size A rfl rfl 25 Z C0.out HAI.out HZ37.out HA1.out ?_))
  refine leaves_cons (f := 66) (args := #[.pointer (some ⟨w.heap.size + 1, 0, none⟩)]) (by simp) (by simp [go_sem]) ?_
  refine (catchW_idle ⟨w.heap.size + 1, 0, none⟩ _).mono ?_
  rintro e u' w'' ⟨rfl, rfl, rfl⟩
  have hs := heap_setCell_same (w1.setRow w.heap.size A) (w.heap.size + 1) 0 _ _ (.int .i64 0) C2.out
  have hs2 : ((w1.setRow w.heap.size A).setCell ⟨w.heap.size + 1, 0, none⟩ (.int .i64 0)).cell? ⟨w.heap.size + 1, 0, none⟩ = some (.int .i64 0) := by rw [cell_of_row _ _ _ _ _ _ hs]; rfl
  have hrow := run_loadVar_row ((w1.setRow w.heap.size A).setCell ⟨w.heap.size + 1, 0, none⟩ (.int .i64 0)) w.heap.size 25 25 A (0, 0) _ (by rw [heap_setCell_other _ _ _ _ (by show w.heap.size ≠ w.heap.size + 1; omega)]; exact C3.out) Tryd.underlying25 rfl HAI.out
  refine ⟨.tuple #[.agg A, .int .i64 0], ?_, rfl, B2.out.setCell (by show w.heap.size ≤ w.heap.size + 1; omega) _⟩
  exact results_row_cell (fn := Tryd.f37) (p := 2) (c := 3) (ty := 25) (tc := 2) rfl _ _ w.heap.size (w.heap.size + 1) _ _ rfl rfl hrow (by simp [go_sem, hs2])

set_option maxRecDepth 100000 in
set_option maxHeartbeats 400000 in
/-- the walk behind the door panics with the program's error -/
theorem doorW_no (f : FuncId) (c1 c2 : Value) (a : Addr) (w : World) (hE : Err a w) (hF : ∀ v, (callFunc f #[c1, c2]).run Tryd.prog v = .ok (.enter f #[c1, c2]) v)
    (HW : Hid (∀ v, Below w.heap.size w v → Calls Tryd.prog f #[c1, c2] v fun e w' => e = .panicked [{ v := errV a, recovered := false }] ∧ Below v.heap.size v w')) :
    Calls Tryd.prog 37 #[.func (.func f) #[] #[c1, c2]] w fun e w' => e = .returned (.tuple #[.agg (pic 0 zc), .int .i64 3]) ∧ Below w.heap.size w w' := by
  have hmf : ∀ (fn : Fn) (first cap : Array Value) (w : World), (Instr.makeFunc fn first cap).run Tryd.prog w = .ok (.func fn first cap) w := fun _ _ _ _ => rfl
  have hz37 := (zero_of_info info37').1
  have HS37 := Lib.hid (zero_of_info info37').2
  have HZ37 : Hid ((pic 0 zc).size = 65) := Lib.hid (pic_size 0 zc zc_size)
  have hne := pic_ne
  generalize pic 0 zc = Z at *
  have HZI : Hid ((Tryd.prog.info? 25).map (·.size) = some Z.size) := Lib.hid (by rw [HZ37.out]; exact HS37.out)
  go_enter_defers Tryd.func37, Tryd.ntmps37
  go_wp2_with fail
  have B0 : Below w.heap.size w ((w.alloc (.cells Z 25)).alloc (.cells #[.int .i64 5] 2)) := below_al2 _ _ _
  refine (HW.out _ B0).mono ?_
  rintro e w1 ⟨rfl, b1⟩
  have C0 : Hid (w1.heap[w.heap.size]? = some (.cells Z 25 (0, 0))) := Lib.hid (by rw [b1.block _ (by rw [size_al, size_al]; omega)]; exact h2_0 _ _ _)
  have C1 : Hid (w1.heap[w.heap.size + 1]? = some (.cells #[.int .i64 5] 2 (0, 0))) := Lib.hid (by rw [b1.block _ (by rw [size_al, size_al]; omega)]; exact h2_1 _ _ _)
  have B1 : Hid (Below w.heap.size w w1) := Lib.hid (B0.trans (b1.mono (by rw [size_al, size_al]; omega)))
  have hE1 : Err a w1 := hE.cell B1.out
  clear b1 B0 HW hF hmf
  have hc : w1.cell? ⟨w.heap.size + 1, 0, none⟩ = some (.int .i64 5) := by rw [cell_of_row _ _ _ _ _ _ C1.out]; rfl
  have hz : w1.frozen? ⟨w.heap.size + 1, 0, none⟩ = false := frozen_of_row _ _ _ _ _ C1.out
  refine leaves_cons (f := 66) (args := #[.pointer (some ⟨w.heap.size + 1, 0, none⟩)]) (by simp) (by simp [go_sem]) ?_
  refine (catchW_panicking ⟨w.heap.size + 1, 0, none⟩ a 5 [] w1 hE1 hc hz).mono ?_
  rintro e u' w'' ⟨rfl, rfl, rfl⟩
  have hs := heap_setCell_same w1 (w.heap.size + 1) 0 _ _ (.int .i64 3) C1.out
  have hs2 : (w1.setCell ⟨w.heap.size + 1, 0, none⟩ (.int .i64 3)).cell? ⟨w.heap.size + 1, 0, none⟩ = some (.int .i64 3) := by rw [cell_of_row _ _ _ _ _ _ hs]; rfl
  have hrow := run_loadVar_row (w1.setCell ⟨w.heap.size + 1, 0, none⟩ (.int .i64 3)) w.heap.size 25 25 Z (0, 0) _ (by rw [heap_setCell_other _ _ _ _ (by show w.heap.size ≠ w.heap.size + 1; omega)]; exact C0.out) Tryd.underlying25 rfl HZI.out
  refine ⟨.tuple #[.agg Z, .int .i64 3], ?_, rfl, B1.out.setCell (by show w.heap.size ≤ w.heap.size + 1; omega) _⟩
  exact results_row_cell (fn := Tryd.f37) (p := 2) (c := 3) (ty := 25) (tc := 2) rfl _ _ w.heap.size (w.heap.size + 1) _ _ rfl rfl hrow (by simp [go_sem, hs2])
end Go.Proofs.YtjmfffgddmnkmabDoor
