/- The places that lists of float32's of a call lie in are apart: what is written in one leaves the others. Condition: none. A list of float32's of the call's own: it begins empty, and a number is appended to it. Condition: not too many numbers. -/
import Derived.Test.YtclflnpbiiimiaaDoorM11
import Derived.Test.YtclflnpbiiimiaaDoorM4
import Derived.Lib.Hide
namespace Go.Proofs.YtclflnpbiiimiaaDoor
open Go Go.RowKit

theorem OwnF.rng {B : Nat} {v : Value} {L : List Nat} {w : World} (h : OwnF B v L w) : Rng v B w.heap.size := World.ownsRow.lt h
theorem OwnF.grown {B lo hi : Nat} {v : Value} {L : List Nat} {w w' : World} {row : Option Nat} (h : OwnF B v L w) (g : w.grownBy w' row) (r : Rng v lo hi) (a : ∀ k, row = some k → k < lo ∨ hi ≤ k) : OwnF B v L w' := by
  refine World.ownsRow.kept h g ?_
  cases hb : v.ownBlock
  · exact .inl rfl
  · right
    intro e
    have := r _ hb
    have := a _ e.symm
    omega

/-- what is asked of program and model: a list and a code, in memory of their own -/
def ListsF (f : FuncId) (L R : List Nat) (c : Int) : Prop :=
  L.length ≤ 1048576 → ∀ v w, OwnF 0 v L w → Calls Tryd.prog f #[v] w fun e w' => ∃ r, e = .returned (.tuple #[r, .int .i64 c]) ∧ OwnF w.heap.size r R w' ∧ Below w.heap.size w w'

end Go.Proofs.YtclflnpbiiimiaaDoor

namespace Go.Proofs.YtclflnpbiiimiaaDoor
open Go Go.RowKit

theorem OwnF.empty (B : Nat) (w : World) (hB : B ≤ w.heap.size) : OwnF B (.slice (some ⟨w.heap.size, 0, none⟩) 0 0) [] (w.alloc (.cells #[] 38)) :=
  ⟨rfl, .inr ⟨w.heap.size, 0, #[], rfl, hB, heap_alloc_new w _, by simp, by simp, rfl, rfl⟩⟩

theorem wpList_pushF {ops : Array Oper} {rest : List Oper} {o : Oper} {a : Act} {Q : Exit → Act → World → Prop} {w : World} (hgd : o.guard = none) (s x : Operand)
    (ho : o.op = .call { callee := .builtin .append, args := #[s, x], argTypes := #[26, 26] }) (B : Nat) (v : Value) (L : List Nat) (y : Nat)
    (hs : a.eval s = v) (hx : a.eval x = .slice (some ⟨w.heap.size, 0, none⟩) 1 1) (hO : OwnF B v L w) (hL : L.length ≤ 1048576) (hB : B ≤ w.heap.size)
    (h : ∀ v' w', OwnF B v' (L ++ [y]) w' → Below B w w' → wpList Tryd.prog ops Q rest (a.put o.dst v') w') : wpList Tryd.prog ops Q (o :: rest) a (w.alloc (.cells #[.float .f32 y] 38)) := by
  obtain ⟨i0, hi, hz0, hz1, hz2⟩ := info_parts infoF
  refine wpList_append_own _ hgd s x 26 ho B 38 i0 (.float .f32 0) 1 4 Tryd.underlying26 hi hz0 hz1 hz2 rfl (by decide) v L.length (L.map (Value.float .f32)) hs (hO.alloc _) ⟨w.heap.size, 0, none⟩ 1 1 [.float .f32 y] hx rfl ?_ ?_ ?_ ?_ ?_ ?_
  · intro j u hj
    match j, hj with
    | 0, hj =>
      simp at hj; subst hj
      simp [Addr.add, World.cell?_alloc_at]
  · intro u hu; simp at hu; subst hu; rfl
  · unfold maxLen; omega
  · omega
  · rw [World.size_alloc]; omega
  · intro v' w' hown hgrow _
    refine h v' w' ?_ ?_
    · unfold OwnF
      rw [List.length_append, List.map_append]
      exact hown
    · refine ((Below.refl B w).alloc hB _).grown hgrow (by rw [World.size_alloc]; omega) (fun j hj => ?_)
      exact (World.ownsRow.lt hO j hj).1

/-- the shape of lists that grow -/
theorem OwnF.one {B : Nat} {v : Value} {L M : List Nat} {w : World} (h : OwnF B v L w) (e : L = M) : OwnF B v M w := by rw [← e]; exact h

end Go.Proofs.YtclflnpbiiimiaaDoor
