/- Plain facts on results that lie in a row and a slot. Condition: none. The program finds a wave of finite cells finite. Condition: 64 finite cells. -/
import Derived.Test.YtjmfffgddmnkmabDoorPlane
import Derived.Laws.ResultCell
import Derived.Test.YtjmfffgddmnkmabDoorWho
namespace Go.Proofs.YtjmfffgddmnkmabDoor
open Go Go.RowKit

theorem results_row_tmp {P : Program} {fn : Func} {p u : Tmp} {ty : TypeId} (h : fn.results = #[.cell p ty, .tmp u]) (tmps : Array Value) (w : World) (g : Nat) (t : TypeId) (cs : Array Value) (fr : Nat × Nat) (d : TypeDesc)
    (hp : tmps.getD p undef = .pointer (some ⟨g, 0, none⟩)) (hg : w.heap[g]? = some (.cells cs t fr))
    (hu : P.underlying ty = some d) (hd : (match d with | .struct _ | .array _ _ => true | _ => false) = true) (hi : (P.info? ty).map (·.size) = some cs.size) :
    (results fn tmps).run P w = .ok (.tuple #[.agg cs, tmps.getD u undef]) w := by
  have hp' : tmps[p]?.getD undef = .pointer (some ⟨g, 0, none⟩) := by simpa using hp
  rw [results_cell_tmp h]
  simp [asAddr, hp', run_loadVar_row w g t ty cs fr d hg hu hd hi]

theorem pic_ne : ¬ pic 0 zc = #[] := fun e => by
  have := congrArg Array.size e
  rw [pic_size 0 zc zc_size] at this
  simp at this

/-- a whole row is loaded, behind a guard that lets it by -/
theorem wpList_load_row_g {P : Program} {ops : Array Oper} {rest : List Oper} {o : Oper} {a : Act} {w : World} {Q : Exit → Act → World → Prop} (hgd : Region.wanted o (yielded ops a.tmps) = true) (ty : TypeId) (x : Operand) (ho : o.op = .load ty x)
    (g : Nat) (hx : a.eval x = .pointer (some ⟨g, 0, none⟩)) (t : TypeId) (cs : Array Value) (fr : Nat × Nat) (d : TypeDesc) (hg : w.heap[g]? = some (.cells cs t fr))
    (hu : P.underlying ty = some d) (hd : (match d with | .struct _ | .array _ _ => true | _ => false) = true) (hi : (P.info? ty).map (·.size) = some cs.size)
    (h : wpList P ops Q rest (a.put o.dst (.agg cs)) w) : wpList P ops Q (o :: rest) a w :=
  wpList_step fun _ hK => by rw [if_pos hgd]; exact wp_load_row ty x ho g hx t cs fr d hg hu hd hi (hK _ _ h)
end Go.Proofs.YtjmfffgddmnkmabDoor

namespace Go.Proofs.YtjmfffgddmnkmabDoor
open Go Go.RowKit

/-- a wave of 64 finite complex numbers -/
def FinW (s : Int) (D : Array Value) : Prop := D.size = 65 ∧ D[0]? = some (.int .i64 s) ∧ ∀ k, k < 64 → ∃ x y, D[1 + k]? = some (.complex .f32 x y) ∧ (fin x && fin y) = true
theorem finW_of (s : Int) (zs : Array Value) (h : Cells zs) : FinW s (pic s zs) := by
  refine ⟨pic_size _ _ h.1, pic_zero _ _, fun k hk => ?_⟩
  obtain ⟨x, y, hx, hy, hz⟩ := h.2 k hk
  exact ⟨x, y, by rw [Nat.add_comm, pic_succ]; exact hz, by rw [hx, hy]; rfl⟩
theorem finW_one {s : Int} {D : Array Value} (h : FinW s D) : D.all (·.oneCell') = true := by
  rw [Array.all_eq_true_iff_forall_mem]
  intro v hv
  obtain ⟨i, hi, he⟩ := Array.mem_iff_getElem.1 hv
  have hg := Array.getElem?_eq_getElem hi
  rw [he] at hg
  cases i with
  | zero => rw [h.2.1] at hg; cases hg; rfl
  | succ i =>
    rw [h.1] at hi
    obtain ⟨x, y, hz, _⟩ := h.2.2 i (by omega)
    rw [Nat.add_comm, hg] at hz
    cases hz
    rfl

end Go.Proofs.YtjmfffgddmnkmabDoor
