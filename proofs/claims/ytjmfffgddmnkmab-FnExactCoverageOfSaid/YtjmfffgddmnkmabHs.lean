/- A list of whole numbers of the call's own: it begins empty, and a number is appended to it. Condition: not too many numbers. -/
import Derived.Test.YtjmfffgddmnkmabHk
namespace Go.Proofs.Ytjmfffgddmnkmab
open Go Go.RowKit

theorem Own.empty (B : Nat) (w : World) (hB : B ≤ w.heap.size) : Own B (.slice (some ⟨w.heap.size, 0, none⟩) 0 0) [] (w.alloc (.cells #[] 2)) :=
  ⟨rfl, .inr ⟨w.heap.size, 0, #[], rfl, hB, heap_alloc_new w _, by simp, by simp, rfl, rfl⟩⟩

theorem wpList_push {ops : Array Oper} {rest : List Oper} {o : Oper} {a : Act} {Q : Exit → Act → World → Prop} {w : World} (hgd : o.guard = none) (s x : Operand)
    (ho : o.op = .call { callee := .builtin .append, args := #[s, x], argTypes := #[36, 36] }) (B : Nat) (v : Value) (L : List Int) (y : Int)
    (hs : a.eval s = v) (hx : a.eval x = .slice (some ⟨w.heap.size, 0, none⟩) 1 1) (hO : Own B v L w) (hL : L.length ≤ 1048576) (hB : B ≤ w.heap.size)
    (h : ∀ v' w', Own B v' (L ++ [y]) w' → Below B w w' → wpList Try.prog ops Q rest (a.put o.dst v') w') : wpList Try.prog ops Q (o :: rest) a (w.alloc (.cells #[.int .i64 y] 2)) := by
  obtain ⟨i0, hi, hz0, hz1, hz2⟩ := info_parts info64
  refine wpList_append_own _ hgd s x 36 ho B 2 i0 (.int .i64 0) 1 8 Try.underlying36 hi hz0 hz1 hz2 rfl (by decide) v L.length (L.map (Value.int .i64)) hs (hO.alloc _) ⟨w.heap.size, 0, none⟩ 1 1 [.int .i64 y] hx rfl ?_ ?_ ?_ ?_ ?_ ?_
  · intro j u hj
    match j, hj with
    | 0, hj =>
      simp at hj; subst hj
      simp [Addr.add, World.cell?_alloc_at]
  · intro u hu; simp at hu; subst hu; rfl
  · unfold maxLen; omega
  · omega
  · rw [World.size_alloc]; omega
  · intro v' w' hown hgrow _
    refine h v' w' ?_ ?_
    · unfold Own
      rw [List.length_append, List.map_append]
      exact hown
    · refine ((Below.refl B w).alloc hB _).grown hgrow (by rw [World.size_alloc]; omega) (fun j hj => ?_)
      exact (World.ownsRow.lt hO j hj).1

/-- the shape of lists that grow -/
theorem Own.one {B : Nat} {v : Value} {L M : List Int} {w : World} (h : Own B v L w) (e : L = M) : Own B v M w := by rw [← e]; exact h

end Go.Proofs.Ytjmfffgddmnkmab
