/- What the program asks of numbers in chapter 3: whether they lie within two, whether they are a centre, distances, the rules' array, the cell of an opening. Condition: none. The law holds a wave of finite cells equal to itself. Condition: 64 finite cells. -/
import Derived.Test.YtjmfffgddmnkmabDoorM21
import Derived.Deep.QuietTactic
import Derived.BigQuiet
import Derived.Test.YtjmfffgddmnkmabDoorEqW
import Derived.Test.YtjmfffgddmnkmabDoorIn
namespace Go.Proofs.YtjmfffgddmnkmabDoor
open Go Go.RowKit

/-- the cell of an opening -/
theorem cell_any (b : Bool) (w : World) : Calls Tryd.prog 67 #[.bool b] w fun e w' => e = .returned (.complex .f32 (mark b).1 (mark b).2) ∧ w = w' := by
  cases b
  · go_enter Tryd.func67, Tryd.ntmps67
    go_wp2
    go_ret
    exact ⟨rfl, rfl⟩
  · go_enter Tryd.func67, Tryd.ntmps67
    go_wp2
    go_ret
    exact ⟨rfl, rfl⟩

theorem results_row_one {P : Program} {fn : Func} {p : Tmp} {ty : TypeId} (h : fn.results = #[.cell p ty]) (tmps : Array Value) (w : World) (g : Nat) (t : TypeId) (cs : Array Value) (fr : Nat × Nat) (d : TypeDesc)
    (hp : tmps.getD p undef = .pointer (some ⟨g, 0, none⟩)) (hg : w.heap[g]? = some (.cells cs t fr))
    (hu : P.underlying ty = some d) (hd : (match d with | .struct _ | .array _ _ => true | _ => false) = true) (hi : (P.info? ty).map (·.size) = some cs.size) :
    (results fn tmps).run P w = .ok (.agg cs) w := by
  have hp' : tmps[p]?.getD undef = .pointer (some ⟨g, 0, none⟩) := by simpa using hp
  simp only [results, h]
  simp [asAddr, hp', run_loadVar_row w g t ty cs fr d hg hu hd hi]

/-- a store of a function -/
@[go_sem] theorem run_store_func (P : Program) (w : World) (a : Addr) (m : Mode) (f : Fn) (x y : Array Value) : (store a (.func f x y) m).run P w = stored P w a (.func f x y) m := run_store P w a _ m rfl
end Go.Proofs.YtjmfffgddmnkmabDoor

namespace Go.Proofs.YtjmfffgddmnkmabDoor
open Go Go.RowKit

set_option maxRecDepth 100000 in
set_option maxHeartbeats 400000 in
theorem eqWave_refl (n : Int) (zs : Array Value) (hz : Cells zs) (w : World) : Calls Tryd.prog 9 #[.agg (pic n zs), .agg (pic n zs)] w fun e w' => e = .returned (.bool true) ∧ Below w.heap.size w w' := by
  have h0 := pic_zero n zs
  have HP := Lib.hid (pic_part n zs)
  have HS : Hid ((Tryd.prog.info? 23).map (·.size) = some zs.size) := Lib.hid (by rw [hz.1]; exact size35)
  have HE := Lib.hid (eqCells zs hz)
  have hnn : (n != n) = false := by simp
  generalize pic n zs = cs at *
  clear hz
  go_enter Tryd.func9, Tryd.ntmps9
  go_wp2_with (first | fail | (refine wpList_load_part rfl 23 (.tmp 10) rfl w.heap.size 1 rfl zs _ 25 cs (0, 0) (h2_0 _ _ _) HP.out Tryd.underlying23 rfl HS.out ?_) | (refine wpList_load_part rfl 23 (.tmp 12) rfl (w.heap.size + 1) 1 rfl zs _ 25 cs (0, 0) (h2_1 _ _ _) HP.out Tryd.underlying23 rfl HS.out ?_))
  refine (HE.out _).mono ?_
  rintro e w1 ⟨rfl, b1⟩
  have B1 := Lib.hid b1
  clear b1
  go_wp2
  go_ret
  refine ⟨rfl, ((((Below.refl _ _).alloc (Nat.le_refl _) _).alloc (by rw [size_al]; omega) _).trans (B1.out.mono ?_))⟩
  rw [size_al, size_al]; omega

end Go.Proofs.YtjmfffgddmnkmabDoor
