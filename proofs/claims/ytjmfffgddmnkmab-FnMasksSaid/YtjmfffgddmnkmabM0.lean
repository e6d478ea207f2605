/- Plain facts on arrays of 64 cells that are copied cell by cell. Condition: none. Plain facts on the blocks that a call lays. Condition: none. -/
import Derived.Test.YtjmfffgddmnkmabChecked
import Derived.Deep.WholeRow
import Derived.WalkKit
import Derived.WalkLawsBesides
import Derived.WalkSpells
import Derived.Outline
import Derived.Lib.Hide
import Derived.Laws.Rows
import Derived.Laws.CopyOwn
namespace Go.Proofs.Ytjmfffgddmnkmab
open Go

/-- a store of a float, and of a complex number, into a cell -/
@[go_sem] theorem run_store_float (P : Program) (w : World) (a : Addr) (m : Mode) (k : FloatKind) (n : Nat) : (store a (.float k n) m).run P w = stored P w a (.float k n) m := run_store P w a _ m rfl
@[go_sem] theorem run_store_complex (P : Program) (w : World) (a : Addr) (m : Mode) (k : FloatKind) (x y : Nat) : (store a (.complex k x y) m).run P w = stored P w a (.complex k x y) m := run_store P w a _ m rfl

/-- 64 zeros -/
def zero64 : Array Value := Array.replicate 64 (.float .f32 0)
/-- the first k cells copied, over zeros -/
def cpy (zs : Array Value) (k : Nat) : Array Value := Array.ofFn (n := 64) fun i => if i.val < k then zs.getD i.val undef else .float .f32 0
/-- 64 floats -/
def Floats (zs : Array Value) : Prop := zs.size = 64 ∧ ∀ k, k < 64 → ∃ x, x < 4294967296 ∧ zs[k]? = some (.float .f32 x)

theorem cpy_get (zs : Array Value) (k i : Nat) : (cpy zs k)[i]? = if i < 64 then some (if i < k then zs.getD i undef else .float .f32 0) else none := by
  simp only [cpy, Array.getElem?_ofFn]
  by_cases h : i < 64 <;> simp [h]
theorem cpy_zero (zs : Array Value) : cpy zs 0 = zero64 := by
  apply Array.ext_getElem?
  intro i
  rw [cpy_get]
  simp only [zero64, Array.getElem?_replicate]
  split <;> simp
theorem cpy_size (zs : Array Value) (k : Nat) : (cpy zs k).size = 64 := by simp [cpy]
theorem cpy_all (zs : Array Value) (hz : Floats zs) : cpy zs 64 = zs := by
  apply Array.ext_getElem?
  intro i
  rw [cpy_get]
  by_cases h : i < 64
  · obtain ⟨x, _, hx⟩ := hz.2 i h
    simp [h, hx]
  · simp [h, hz.1]
theorem cpy_succ (zs : Array Value) (k : Nat) (hk : k < 64) (v : Value) (hv : zs[k]? = some v) : (cpy zs k).setIfInBounds k v = cpy zs (k + 1) := by
  apply Array.ext_getElem?
  intro i
  rw [Array.getElem?_setIfInBounds, cpy_get, cpy_get, cpy_size]
  by_cases hik : k = i
  · subst hik
    simp [hk, hv]
  · by_cases h : i < 64
    · simp only [h, hik, if_true, if_false]
      by_cases h1 : i < k
      · simp [h1, show i < k + 1 by omega]
      · simp [h1, show ¬ i < k + 1 by omega]
    · simp [h, hik]
theorem floats_one (zs : Array Value) (hz : Floats zs) : zs.all (·.oneCell') = true := by
  rw [Array.all_eq_true_iff_forall_mem]
  intro v hv
  obtain ⟨i, hi, he⟩ := Array.mem_iff_getElem.1 hv
  obtain ⟨x, _, hx⟩ := hz.2 i (by have := hz.1; omega)
  rw [Array.getElem?_eq_getElem hi, he] at hx
  cases hx
  rfl
end Go.Proofs.Ytjmfffgddmnkmab

namespace Go.Proofs.Ytjmfffgddmnkmab
open Go Go.RowKit

theorem size_al (w : World) (o : Obj) : (w.alloc o).heap.size = w.heap.size + 1 := by
  show (w.heap.push o).size = _
  simp
theorem h1_0 (w : World) (A : Obj) : (w.alloc A).heap[w.heap.size]? = some A := heap_alloc_new w A
theorem h2_1 (w : World) (A B : Obj) : ((w.alloc A).alloc B).heap[w.heap.size + 1]? = some B := by
  have h := heap_alloc_new (w.alloc A) B
  rwa [size_al] at h
theorem h2_0 (w : World) (A B : Obj) : ((w.alloc A).alloc B).heap[w.heap.size]? = some A := by
  rw [heap_alloc_old _ _ (by rw [size_al]; omega)]; exact h1_0 w A
theorem h3_2 (w : World) (A B C : Obj) : (((w.alloc A).alloc B).alloc C).heap[w.heap.size + 1 + 1]? = some C := by
  have h := heap_alloc_new ((w.alloc A).alloc B) C
  rwa [size_al, size_al] at h
theorem h3_1 (w : World) (A B C : Obj) : (((w.alloc A).alloc B).alloc C).heap[w.heap.size + 1]? = some B := by
  rw [heap_alloc_old _ _ (by rw [size_al, size_al]; omega)]; exact h2_1 w A B
theorem h3_0 (w : World) (A B C : Obj) : (((w.alloc A).alloc B).alloc C).heap[w.heap.size]? = some A := by
  rw [heap_alloc_old _ _ (by rw [size_al, size_al]; omega)]; exact h2_0 w A B
theorem heap_setRow_other (w : World) (g k : Nat) (cs : Array Value) (h : k ≠ g) : (w.setRow g cs).heap[k]? = w.heap[k]? := by
  simp only [World.setRow, Array.getElem?_modify]
  rw [if_neg h.symm]

end Go.Proofs.Ytjmfffgddmnkmab
