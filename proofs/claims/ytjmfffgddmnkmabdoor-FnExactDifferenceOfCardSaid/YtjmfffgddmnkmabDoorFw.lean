/- The program finds a wave of finite cells finite. Condition: 64 finite cells. -/
import Derived.Test.YtjmfffgddmnkmabDoorWho
import Derived.Test.YtjmfffgddmnkmabDoorRes
namespace Go.Proofs.YtjmfffgddmnkmabDoor
open Go Go.RowKit

/-- a wave of 64 finite complex numbers -/
def FinW (s : Int) (D : Array Value) : Prop := D.size = 65 ∧ D[0]? = some (.int .i64 s) ∧ ∀ k, k < 64 → ∃ x y, D[1 + k]? = some (.complex .f32 x y) ∧ (fin x && fin y) = true
theorem finW_of (s : Int) (zs : Array Value) (h : Cells zs) : FinW s (pic s zs) := by
  refine ⟨pic_size _ _ h.1, pic_zero _ _, fun k hk => ?_⟩
  obtain ⟨x, y, hx, hy, hz⟩ := h.2 k hk
  exact ⟨x, y, by rw [Nat.add_comm, pic_succ]; exact hz, by rw [hx, hy]; rfl⟩
theorem finW_one {s : Int} {D : Array Value} (h : FinW s D) : D.all (·.oneCell') = true := by
  rw [Array.all_eq_true_iff_forall_mem]
  intro v hv
  obtain ⟨i, hi, he⟩ := Array.mem_iff_getElem.1 hv
  have hg := Array.getElem?_eq_getElem hi
  rw [he] at hg
  cases i with
  | zero => rw [h.2.1] at hg; cases hg; rfl
  | succ i =>
    rw [h.1] at hi
    obtain ⟨x, y, hz, _⟩ := h.2.2 i (by omega)
    rw [Nat.add_comm, hg] at hz
    cases hz
    rfl

end Go.Proofs.YtjmfffgddmnkmabDoor
