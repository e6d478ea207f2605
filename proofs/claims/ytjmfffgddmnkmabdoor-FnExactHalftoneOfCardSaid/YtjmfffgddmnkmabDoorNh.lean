/- What comes from above the first row. Condition: none. -/
import Derived.Test.YtjmfffgddmnkmabDoorRow
import Derived.Conc.LoneCalls
namespace Go.Proofs.YtjmfffgddmnkmabDoor
open Go Go.RowKit Go.Conc

theorem bytesC : ∃ i, Tryd.prog.info? 30 = some i ∧ i.bytes = 4 := by
  have h : (Tryd.prog.info? 30).map (·.bytes) = some 4 := by kernel_rfl
  obtain ⟨i, hi, hb⟩ := Option.map_eq_some_iff.1 h
  exact ⟨i, hi, hb⟩
theorem mkChan (n : Nat) (hn : n ≤ 64) (w : World) : (Instr.makeChan 96 (.int .i64 n)).run Tryd.prog w = .ok (.chan (some w.heap.size)) (w.alloc (.chan n #[] false 0 0 false)) := by
  obtain ⟨i, hi, hb⟩ := bytesC
  simpa using run_makeChan (P := Tryd.prog) (w := w) Tryd.underlying96 hi .i64 n (by omega) (by rw [hb]; omega)

set_option maxRecDepth 100000 in
theorem noHalves_any (w : World) : Calls Tryd.prog 39 #[] w fun e w' => e = .returned (.chan (some w.heap.size)) ∧ w'.heap[w.heap.size]? = some (.chan 0 #[] true 0 0 false) ∧ Below w.heap.size w w' := by
  have hmc : ∀ v, (Instr.makeChan 96 (.int .i64 0)).run Tryd.prog v = .ok (.chan (some v.heap.size)) (v.alloc (.chan 0 #[] false 0 0 false)) := fun v => mkChan 0 (by omega) v
  have hcl := fun ats ty => run_close_open (P := Tryd.prog) (w := (w.alloc (.chan 0 #[] false 0 0 false))) ats ty (heap_alloc_new w (.chan 0 #[] false 0 0 false))
  go_enter Tryd.func39, Tryd.ntmps39
  go_wp2
  go_ret
  refine ⟨rfl, ?_, ?_⟩
  · exact heap_setChan (w.alloc (.chan 0 #[] false 0 0 false)) w.heap.size 0 #[] true 0 0 false (by rw [size_al]; omega)
  · exact below_setChan (w := w.alloc (.chan 0 #[] false 0 0 false)) ((Below.refl _ w).alloc (Nat.le_refl _) _) (Nat.le_refl _) 0 #[] true 0 0 false
end Go.Proofs.YtjmfffgddmnkmabDoor
