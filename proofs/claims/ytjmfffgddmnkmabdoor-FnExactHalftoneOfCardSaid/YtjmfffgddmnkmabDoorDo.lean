/- The door behind which what is not finite is a panic: what it answers where the walk returns, and where it panics with the program's own error. Condition: the error's variable holds a pointer to the library's error. -/
import Derived.Test.YtjmfffgddmnkmabDoorEr
import Derived.Test.YtjmfffgddmnkmabDoorM32
import Derived.Defers
import Derived.Recover
namespace Go.Proofs.YtjmfffgddmnkmabDoor
open Go Go.RowKit

/-- the program's error -/
def errV (a : Addr) : Value := .iface 159 (.pointer (some a))
/-- its variable holds it -/
def Err (a : Addr) (w : World) : Prop := w.cell? ⟨0, 0, none⟩ = some (errV a)
theorem Err.cell {a : Addr} {w v : World} (h : Err a w) (b : Below w.heap.size w v) : Err a v := by
  unfold Err at *
  rw [b.cell (World.block_lt_of_cell? w _ h)]; exact h
theorem Err.pos {a : Addr} {w : World} (h : Err a w) : 0 < w.heap.size := World.block_lt_of_cell? w _ h
theorem Err.below {a : Addr} {n : Nat} {w v : World} (h : Err a w) (hn : 0 < n) (b : Below n w v) : Err a v := by
  unfold Err at *
  rw [b.cell (p := ⟨0, 0, none⟩) hn]; exact h

theorem finNum_yes (x : Nat) (hf : fin x = true) (w : World) : Calls Tryd.prog 34 #[.float .f32 x] w fun e w' => e = .returned (.float .f32 x) ∧ ∃ n, w' = w.drewN n := by
  go_enter Tryd.func34, Tryd.ntmps34
  go_wp2_with (go_at_call 36; refine (finite_any _ _).mono ?_; rw [hf]; rintro e w' ⟨rfl, n', rfl⟩)
  go_ret
  exact ⟨rfl, _, rfl⟩
theorem finNum_no (x : Nat) (hf : fin x = false) (a : Addr) (w : World) (hE : Err a w) : Calls Tryd.prog 34 #[.float .f32 x] w fun e w' => e = .panicked [{ v := errV a, recovered := false }] ∧ ∃ n, w' = w.drewN n := by
  unfold Err errV at hE
  go_enter Tryd.func34, Tryd.ntmps34
  go_wp2_with (go_at_call 36; refine (finite_any _ _).mono ?_; rw [hf]; rintro e w' ⟨rfl, n', rfl⟩)
  exact ⟨rfl, rfl, _, rfl⟩

/-- the code goes on, in that world -/
def EndsAt (v : World) : Exit → Act → World → Prop := fun e a' w' => e = .normal ∧ a'.defers = [] ∧ w' = v
theorem wpS_ends {P : Program} {c : Code} {Q : Exit → Act → List Frame → World → Prop} {a : Act} {cs : List Frame} {w v : World} (h : c.wp P (EndsAt v) a w) (hq : ∀ a', a'.defers = [] → Q .normal a' cs v) : c.wpS P Q a cs w :=
  wpS_of_wp fun b k cs' => by
    obtain ⟨e, a', w', ⟨rfl, hd, rfl⟩, r⟩ := h b k cs'
    exact ⟨_, _, _, hq a' hd, r⟩
theorem hasErr (v : Value) (xT : TypeId) (w : World) : (Instr.typeAssert (.iface 159 v) xT 81 true).run Tryd.prog w = .ok (.tuple #[.iface 159 v, .bool true]) w := run_typeAssert_hasB Tryd.underlying81 (by kernel_rfl) v xT w
theorem nilErr (xT : TypeId) (w : World) : (Instr.typeAssert .nilIface xT 81 true).run Tryd.prog w = .ok (.tuple #[.nilIface, .bool false]) w := by kernel_rfl

set_option maxRecDepth 100000 in
theorem catchF_panicking (p a : Addr) (x : Int) (older : List PanicEntry) (w : World) (hE : Err a w) (hc : w.cell? p = some (.int .i64 x)) (hz : w.frozen? p = false) :
    CallsD Tryd.prog 63 #[.pointer (some p)] (.panicking ({ v := errV a, recovered := false } :: older)) w fun e u' w' =>
      e = .returned (.tuple #[]) ∧ u' = .panicking ({ v := errV a, recovered := true } :: older) ∧ w' = w.setCell p (.int .i64 3) := by
  unfold Err at hE
  unfold errV at *
  have hA := hasErr
  refine callsD_of_wpS Tryd.func63 rfl fun c₀ cs hu => ?_
  apply wpS_seq
  apply wpS_region
  simp [wpOpsS, go_sem, recoverD, hu, Tryd.ntmps63, Exit.thenS, hA]
  refine wpS_ends (v := w.setCell p (.int .i64 3)) ?_ ?_
  · have hT : (#[Value.pointer (some p)] ++ (((((((Array.replicate 13 undef).setIfInBounds 3 (.iface 159 (.pointer (some a)))).setIfInBounds 4 (.tuple #[.iface 159 (.pointer (some a)), .bool true])).setIfInBounds 2 (.tuple #[.iface 159 (.pointer (some a)), .bool true])).setIfInBounds 5 (.iface 159 (.pointer (some a)))).setIfInBounds 6 (.bool true)).setIfInBounds 0 (.iface 159 (.pointer (some a)))).setIfInBounds 1 (.bool true)) = #[.pointer (some p), .iface 159 (.pointer (some a)), .bool true, .tuple #[.iface 159 (.pointer (some a)), .bool true], .iface 159 (.pointer (some a)), .tuple #[.iface 159 (.pointer (some a)), .bool true], .iface 159 (.pointer (some a)), .bool true, undef, undef, undef, undef, undef, undef] := by kernel_rfl
    rw [hT]
    clear hT hu hA
    go_wp2_with (go_at_call 64; refine (is_same _ _).mono ?_; rintro e w' ⟨rfl, rfl⟩)
    exact ⟨rfl, rfl, rfl⟩
  · intro a' hd
    exact ⟨hd, _, rfl, .tuple #[], by simp [results, Tryd.results63], rfl, rfl, rfl⟩

set_option maxRecDepth 100000 in
theorem catchF_idle (p : Addr) (w : World) :
    CallsD Tryd.prog 63 #[.pointer (some p)] .returning w fun e u' w' =>
      e = .returned (.tuple #[]) ∧ u' = .returning ∧ w' = w := by
  have hA := nilErr
  refine callsD_of_wpS Tryd.func63 rfl fun c₀ cs hu => ?_
  apply wpS_seq
  apply wpS_region
  simp [wpOpsS, go_sem, recoverD, hu, Tryd.ntmps63, Exit.thenS, hA]
  refine wpS_ends (v := w) ?_ ?_
  · have hT : (#[Value.pointer (some p)] ++ (((((((Array.replicate 13 undef).setIfInBounds 3 .nilIface).setIfInBounds 4 (.tuple #[.nilIface, .bool false])).setIfInBounds 2 (.tuple #[.nilIface, .bool false])).setIfInBounds 5 .nilIface).setIfInBounds 6 (.bool false)).setIfInBounds 0 .nilIface).setIfInBounds 1 (.bool false)) = #[.pointer (some p), .nilIface, .bool false, .tuple #[.nilIface, .bool false], .nilIface, .tuple #[.nilIface, .bool false], .nilIface, .bool false, undef, undef, undef, undef, undef, undef] := by kernel_rfl
    rw [hT]
    clear hT hu hA
    go_wp2
    exact ⟨rfl, rfl, rfl⟩
  · intro a' hd
    refine ⟨hd, .returning, ?_, .tuple #[], by simp [results, Tryd.results63], rfl, rfl, rfl⟩
    cases c₀
    simp_all

set_option maxRecDepth 100000 in
set_option maxHeartbeats 400000 in
/-- the walk behind the door returns -/
theorem doorF_yes (f : FuncId) (c1 c2 : Value) (x : Nat) (w : World) (hF : ∀ v, (callFunc f #[c1, c2]).run Tryd.prog v = .ok (.enter f #[c1, c2]) v)
    (HW : Hid (∀ v, Below w.heap.size w v → Calls Tryd.prog f #[c1, c2] v fun e w' => e = .returned (.float .f32 x) ∧ Below v.heap.size v w')) :
    Calls Tryd.prog 32 #[.func (.func f) #[] #[c1, c2]] w fun e w' => e = .returned (.tuple #[.float .f32 x, .int .i64 0]) ∧ Below w.heap.size w w' := by
  have hmf : ∀ (fn : Fn) (first cap : Array Value) (w : World), (Instr.makeFunc fn first cap).run Tryd.prog w = .ok (.func fn first cap) w := fun _ _ _ _ => rfl
  go_enter_defers Tryd.func32, Tryd.ntmps32
  go_wp2_with fail
  have B0 : Below w.heap.size w (w.alloc (.cells #[.int .i64 5] 2)) := (Below.refl _ _).alloc (Nat.le_refl _) _
  refine (HW.out _ B0).mono ?_
  rintro e w1 ⟨rfl, b1⟩
  have C1 : Hid (w1.heap[w.heap.size]? = some (.cells #[.int .i64 5] 2 (0, 0))) := Lib.hid (by rw [b1.block _ (by rw [size_al]; omega)]; exact h1_0 _ _)
  have B1 : Hid (Below w.heap.size w w1) := Lib.hid (B0.trans (b1.mono (by rw [size_al]; omega)))
  clear b1 B0 HW hF hmf
  have hc : w1.cell? ⟨w.heap.size, 0, none⟩ = some (.int .i64 5) := by rw [cell_of_row _ _ _ _ _ _ C1.out]; rfl
  have hz : w1.frozen? ⟨w.heap.size, 0, none⟩ = false := frozen_of_row _ _ _ _ _ C1.out
  go_wp2
  refine leaves_cons (f := 63) (args := #[.pointer (some ⟨w.heap.size, 0, none⟩)]) (by simp) (by simp [go_sem]) ?_
  refine (catchF_idle ⟨w.heap.size, 0, none⟩ _).mono ?_
  rintro e u' w'' ⟨rfl, rfl, rfl⟩
  have hs := heap_setCell_same w1 w.heap.size 0 _ _ (.int .i64 0) C1.out
  have hs2 : (w1.setCell ⟨w.heap.size, 0, none⟩ (.int .i64 0)).cell? ⟨w.heap.size, 0, none⟩ = some (.int .i64 0) := by rw [cell_of_row _ _ _ _ _ _ hs]; rfl
  refine ⟨.tuple #[.float .f32 x, .int .i64 0], ?_, rfl, B1.out.setCell (Nat.le_refl _) _⟩
  simp [results, Tryd.results32, go_sem, hs2]

set_option maxRecDepth 100000 in
set_option maxHeartbeats 400000 in
/-- the walk behind the door panics with the program's error -/
theorem doorF_no (f : FuncId) (c1 c2 : Value) (a : Addr) (w : World) (hE : Err a w) (hF : ∀ v, (callFunc f #[c1, c2]).run Tryd.prog v = .ok (.enter f #[c1, c2]) v)
    (HW : Hid (∀ v, Below w.heap.size w v → Calls Tryd.prog f #[c1, c2] v fun e w' => e = .panicked [{ v := errV a, recovered := false }] ∧ Below v.heap.size v w')) :
    Calls Tryd.prog 32 #[.func (.func f) #[] #[c1, c2]] w fun e w' => e = .returned (.tuple #[.float .f32 0, .int .i64 3]) ∧ Below w.heap.size w w' := by
  have hmf : ∀ (fn : Fn) (first cap : Array Value) (w : World), (Instr.makeFunc fn first cap).run Tryd.prog w = .ok (.func fn first cap) w := fun _ _ _ _ => rfl
  go_enter_defers Tryd.func32, Tryd.ntmps32
  go_wp2_with fail
  have B0 : Below w.heap.size w (w.alloc (.cells #[.int .i64 5] 2)) := (Below.refl _ _).alloc (Nat.le_refl _) _
  refine (HW.out _ B0).mono ?_
  rintro e w1 ⟨rfl, b1⟩
  have C1 : Hid (w1.heap[w.heap.size]? = some (.cells #[.int .i64 5] 2 (0, 0))) := Lib.hid (by rw [b1.block _ (by rw [size_al]; omega)]; exact h1_0 _ _)
  have B1 : Hid (Below w.heap.size w w1) := Lib.hid (B0.trans (b1.mono (by rw [size_al]; omega)))
  have hE1 : Err a w1 := hE.cell B1.out
  clear b1 B0 HW hF hmf
  have hc : w1.cell? ⟨w.heap.size, 0, none⟩ = some (.int .i64 5) := by rw [cell_of_row _ _ _ _ _ _ C1.out]; rfl
  have hz : w1.frozen? ⟨w.heap.size, 0, none⟩ = false := frozen_of_row _ _ _ _ _ C1.out
  refine leaves_cons (f := 63) (args := #[.pointer (some ⟨w.heap.size, 0, none⟩)]) (by simp) (by simp [go_sem]) ?_
  refine (catchF_panicking ⟨w.heap.size, 0, none⟩ a 5 [] w1 hE1 hc hz).mono ?_
  rintro e u' w'' ⟨rfl, rfl, rfl⟩
  have hs := heap_setCell_same w1 w.heap.size 0 _ _ (.int .i64 3) C1.out
  have hs2 : (w1.setCell ⟨w.heap.size, 0, none⟩ (.int .i64 3)).cell? ⟨w.heap.size, 0, none⟩ = some (.int .i64 3) := by rw [cell_of_row _ _ _ _ _ _ hs]; rfl
  refine ⟨.tuple #[.float .f32 0, .int .i64 3], ?_, rfl, B1.out.setCell (Nat.le_refl _) _⟩
  simp [results, Tryd.results32, go_sem, hs2]
end Go.Proofs.YtjmfffgddmnkmabDoor
