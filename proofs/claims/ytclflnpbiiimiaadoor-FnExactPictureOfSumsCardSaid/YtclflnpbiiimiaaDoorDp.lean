/- The door behind which a picture is built, where nothing is not finite. Condition: none. -/
import Derived.Test.YtclflnpbiiimiaaDoorKo
import Derived.Test.YtclflnpbiiimiaaDoorFinW
import Derived.Defers
import Derived.Recover
namespace Go.Proofs.YtclflnpbiiimiaaDoor
open Go Go.RowKit

theorem finNum10 (x : Nat) (hf : fin x = true) (w : World) : Calls Tryd.prog 79 #[.float .f32 x] w fun e w' => e = .returned (.float .f32 x) ∧ ∃ n, w' = w.drewN n := by
  go_enter Tryd.func79, Tryd.ntmps79
  go_wp2_with (go_at_call 57; refine (finite_any _ _).mono ?_; rw [hf]; rintro e w' ⟨rfl, n', rfl⟩)
  go_ret
  exact ⟨rfl, _, rfl⟩

/-- the code goes on, in that world -/
def EndsAt (v : World) : Exit → Act → World → Prop := fun e a' w' => e = .normal ∧ a'.defers = [] ∧ w' = v
theorem wpS_ends {P : Program} {c : Code} {Q : Exit → Act → List Frame → World → Prop} {a : Act} {cs : List Frame} {w v : World} (h : c.wp P (EndsAt v) a w) (hq : ∀ a', a'.defers = [] → Q .normal a' cs v) : c.wpS P Q a cs w :=
  wpS_of_wp fun b k cs' => by
    obtain ⟨e, a', w', ⟨rfl, hd, rfl⟩, r⟩ := h b k cs'
    exact ⟨_, _, _, hq a' hd, r⟩
theorem nilErr (xT : TypeId) (w : World) : (Instr.typeAssert .nilIface xT 108 true).run Tryd.prog w = .ok (.tuple #[.nilIface, .bool false]) w := by kernel_rfl

set_option maxRecDepth 100000 in
theorem catchP_idle (p : Addr) (w : World) :
    CallsD Tryd.prog 86 #[.pointer (some p)] .returning w fun e u' w' =>
      e = .returned (.tuple #[]) ∧ u' = .returning ∧ w' = w := by
  have hA := nilErr
  refine callsD_of_wpS Tryd.func86 rfl fun c₀ cs hu => ?_
  apply wpS_seq
  apply wpS_region
  simp [wpOpsS, go_sem, recoverD, hu, Tryd.ntmps86, Exit.thenS, hA]
  refine wpS_ends (v := w) ?_ ?_
  · have hT : (#[Value.pointer (some p)] ++ (((((((Array.replicate 13 undef).setIfInBounds 3 .nilIface).setIfInBounds 4 (.tuple #[.nilIface, .bool false])).setIfInBounds 2 (.tuple #[.nilIface, .bool false])).setIfInBounds 5 .nilIface).setIfInBounds 6 (.bool false)).setIfInBounds 0 .nilIface).setIfInBounds 1 (.bool false)) = #[.pointer (some p), .nilIface, .bool false, .tuple #[.nilIface, .bool false], .nilIface, .tuple #[.nilIface, .bool false], .nilIface, .bool false, undef, undef, undef, undef, undef, undef] := by kernel_rfl
    rw [hT]
    clear hT hu hA
    go_wp2
    exact ⟨rfl, rfl, rfl⟩
  · intro a' hd
    refine ⟨hd, .returning, ?_, .tuple #[], by simp [results, Tryd.results86], rfl, rfl, rfl⟩
    cases c₀
    simp_all

set_option maxRecDepth 100000 in
set_option maxHeartbeats 400000 in
/-- the walk behind the door returns a row -/
theorem doorP_yes (f : FuncId) (c1 c2 : Value) (C : Array Value) (w : World) (hF : ∀ v, (callFunc f #[c1, c2]).run Tryd.prog v = .ok (.enter f #[c1, c2]) v)
    (HW : Hid (∀ v, Below w.heap.size w v → Calls Tryd.prog f #[c1, c2] v fun e w' => e = .returned (.agg C) ∧ Below v.heap.size v w')) (hC1 : C.all (·.oneCell') = true) (hCs : C.size = 65) :
    Calls Tryd.prog 77 #[.func (.func f) #[] #[c1, c2]] w fun e w' => e = .returned (.tuple #[.agg C, .int .i64 0]) ∧ Below w.heap.size w w' := by
  have hz32 := (zero_of_info info32).1
  have HS32 := Lib.hid (zero_of_info info32).2
  have HZ32 : Hid ((pic 0 zero64).size = 65) := Lib.hid (pic_size 0 zero64 (by simp [zero64]))
  have hne : ¬ pic 0 zero64 = #[] := fun e => by
    have := congrArg Array.size e
    rw [HZ32.out] at this
    simp at this
  generalize pic 0 zero64 = Z at *
  have HCI : Hid ((Tryd.prog.info? 41).map (·.size) = some C.size) := Lib.hid (by rw [hCs]; exact HS32.out)
  have HZC : Hid (Z.size = C.size) := Lib.hid (by rw [hCs, HZ32.out])
  have HC1 := Lib.hid hC1
  clear hC1 hCs
  have hmf : ∀ (fn : Fn) (first cap : Array Value) (w : World), (Instr.makeFunc fn first cap).run Tryd.prog w = .ok (.func fn first cap) w := fun _ _ _ _ => rfl
  go_enter_defers Tryd.func77, Tryd.ntmps77
  go_wp2_with fail
  have B0 : Below w.heap.size w ((w.alloc (.cells Z 41)).alloc (.cells #[.int .i64 5] 2)) := ((Below.refl _ _).alloc (Nat.le_refl _) _).alloc (by simp) _
  refine (HW.out _ B0).mono ?_
  rintro e w1 ⟨rfl, b1⟩
  have R1 : Hid (w1.heap[w.heap.size]? = some (.cells Z 41 (0, 0))) := Lib.hid (by rw [b1.block _ (by simp; omega), heap_alloc_old _ _ (by rw [size_al]; omega)]; exact h1_0 _ _)
  have C1 : Hid (w1.heap[w.heap.size + 1]? = some (.cells #[.int .i64 5] 2 (0, 0))) := Lib.hid (by rw [b1.block _ (by simp)]; exact h2_1 _ _ _)
  have B1 : Hid (Below w.heap.size w w1) := Lib.hid (B0.trans (b1.mono (by simp; omega)))
  clear b1 B0 HW hF hmf hz32 hne
  have C2 : Hid ((w1.setRow w.heap.size C).heap[w.heap.size + 1]? = some (.cells #[.int .i64 5] 2 (0, 0))) := Lib.hid (by rw [setRow_other _ _ _ _ (by omega)]; exact C1.out)
  have hc : (w1.setRow w.heap.size C).cell? ⟨w.heap.size + 1, 0, none⟩ = some (.int .i64 5) := by rw [cell_of_row _ _ _ _ _ _ C2.out]; rfl
  have hz : (w1.setRow w.heap.size C).frozen? ⟨w.heap.size + 1, 0, none⟩ = false := frozen_of_row _ _ _ _ _ C2.out
  go_wp2_with (refine wpList_store_row rfl 41 (.tmp 2) (.tmp 6) rfl w.heap.size C rfl rfl 41 Z R1.out HCI.out HZC.out HC1.out ?_)
  refine leaves_cons (f := 86) (args := #[.pointer (some ⟨w.heap.size + 1, 0, none⟩)]) (by simp) (by simp [go_sem]) ?_
  refine (catchP_idle ⟨w.heap.size + 1, 0, none⟩ _).mono ?_
  rintro e u' w'' ⟨rfl, rfl, rfl⟩
  have hs := heap_setCell_same (w1.setRow w.heap.size C) (w.heap.size + 1) 0 _ _ (.int .i64 0) C2.out
  have hs2 : ((w1.setRow w.heap.size C).setCell ⟨w.heap.size + 1, 0, none⟩ (.int .i64 0)).cell? ⟨w.heap.size + 1, 0, none⟩ = some (.int .i64 0) := by rw [cell_of_row _ _ _ _ _ _ hs]; rfl
  have hg : ((w1.setRow w.heap.size C).setCell ⟨w.heap.size + 1, 0, none⟩ (.int .i64 0)).heap[w.heap.size]? = some (.cells C 41 (0, 0)) := by rw [heap_setCell_other _ _ _ _ (by show w.heap.size ≠ w.heap.size + 1; omega)]; exact setRow_heap _ _ _ _ _ _ R1.out
  refine ⟨.tuple #[.agg C, .int .i64 0], ?_, rfl, (below_setRow B1.out (Nat.le_refl _) _).setCell (p := ⟨w.heap.size + 1, 0, none⟩) (by show w.heap.size ≤ w.heap.size + 1; omega) _⟩
  simp [results, Tryd.results77, asAddr, run_loadVar_row _ w.heap.size _ _ _ _ _ hg Tryd.underlying41 rfl HCI.out]
  simp [go_sem, hs2]

end Go.Proofs.YtclflnpbiiimiaaDoor
