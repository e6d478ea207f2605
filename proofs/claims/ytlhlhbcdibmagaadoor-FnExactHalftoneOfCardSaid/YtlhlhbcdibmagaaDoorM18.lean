/- The law of IsPicture returns true for every picture's cells. Condition: 64 floats. The door behind which what is not finite is a panic: what it answers where the walk returns, and where it panics with the program's own error. Condition: the error's variable holds a pointer to the library's error. -/
import Derived.Test.YtlhlhbcdibmagaaDoorImpl
import Derived.Test.YtlhlhbcdibmagaaDoorPic
import Derived.Test.YtlhlhbcdibmagaaDoorM11
import Derived.Defers
import Derived.Recover
namespace Go.Proofs.YtlhlhbcdibmagaaDoor
open Go Go.RowKit

theorem size32 (s : Int) (zs : Array Value) (hz : Floats zs) : (Tryd.prog.info? 32).map (·.size) = some (pic s zs).size := by rw [pic_size s zs hz.1]; exact (zero_of_info info32).2
theorem size30 (s : Int) (zs : Array Value) (hz : Floats zs) : (Tryd.prog.info? 25).map (·.size) = some (pic s zs).size := by rw [pic_size s zs hz.1]; kernel_rfl

end Go.Proofs.YtlhlhbcdibmagaaDoor

namespace Go.Proofs.YtlhlhbcdibmagaaDoor
open Go Go.RowKit

/-- the program's error -/
def errV (a : Addr) : Value := .iface 83 (.pointer (some a))
/-- its variable holds it -/
def Err (a : Addr) (w : World) : Prop := w.cell? ⟨0, 0, none⟩ = some (errV a)
theorem Err.cell {a : Addr} {w v : World} (h : Err a w) (b : Below w.heap.size w v) : Err a v := by
  unfold Err at *
  rw [b.cell (World.block_lt_of_cell? w _ h)]; exact h
theorem Err.pos {a : Addr} {w : World} (h : Err a w) : 0 < w.heap.size := World.block_lt_of_cell? w _ h
theorem Err.below {a : Addr} {n : Nat} {w v : World} (h : Err a w) (hn : 0 < n) (b : Below n w v) : Err a v := by
  unfold Err at *
  rw [b.cell (p := ⟨0, 0, none⟩) hn]; exact h

theorem finNum_yes (x : Nat) (hf : fin x = true) (w : World) : Calls Tryd.prog 26 #[.float .f32 x] w fun e w' => e = .returned (.float .f32 x) ∧ ∃ n, w' = w.drewN n := by
  go_enter Tryd.func26, Tryd.ntmps26
  go_wp2_with (go_at_call 13; refine (finite_any _ _).mono ?_; rw [hf]; rintro e w' ⟨rfl, n', rfl⟩)
  go_ret
  exact ⟨rfl, _, rfl⟩
theorem finNum_no (x : Nat) (hf : fin x = false) (a : Addr) (w : World) (hE : Err a w) : Calls Tryd.prog 26 #[.float .f32 x] w fun e w' => e = .panicked [{ v := errV a, recovered := false }] ∧ ∃ n, w' = w.drewN n := by
  unfold Err errV at hE
  go_enter Tryd.func26, Tryd.ntmps26
  go_wp2_with (go_at_call 13; refine (finite_any _ _).mono ?_; rw [hf]; rintro e w' ⟨rfl, n', rfl⟩)
  exact ⟨rfl, rfl, _, rfl⟩

/-- the code goes on, in that world -/
def EndsAt (v : World) : Exit → Act → World → Prop := fun e a' w' => e = .normal ∧ a'.defers = [] ∧ w' = v
theorem wpS_ends {P : Program} {c : Code} {Q : Exit → Act → List Frame → World → Prop} {a : Act} {cs : List Frame} {w v : World} (h : c.wp P (EndsAt v) a w) (hq : ∀ a', a'.defers = [] → Q .normal a' cs v) : c.wpS P Q a cs w :=
  wpS_of_wp fun b k cs' => by
    obtain ⟨e, a', w', ⟨rfl, hd, rfl⟩, r⟩ := h b k cs'
    exact ⟨_, _, _, hq a' hd, r⟩
theorem hasErr (v : Value) (xT : TypeId) (w : World) : (Instr.typeAssert (.iface 83 v) xT 54 true).run Tryd.prog w = .ok (.tuple #[.iface 83 v, .bool true]) w := run_typeAssert_hasB Tryd.underlying54 (by kernel_rfl) v xT w
theorem nilErr (xT : TypeId) (w : World) : (Instr.typeAssert .nilIface xT 54 true).run Tryd.prog w = .ok (.tuple #[.nilIface, .bool false]) w := by kernel_rfl

end Go.Proofs.YtlhlhbcdibmagaaDoor
