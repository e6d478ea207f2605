/- A number is appended to a list of the call's own, in a statement that draws its order, too: the new list, and the old one as it was. Condition: not too many numbers. -/
import Derived.Test.YtlkgdfednejhiaaHs
import Derived.Maps.AppendAt
import Derived.RegionTactic
namespace Go.Proofs.Ytlkgdfednejhiaa
open Go Go.RowKit

theorem run_push {ty : TypeId} (w : World) (B : Nat) (v : Value) (L : List Int) (y : Int) (ad : Addr) (hy : w.cell? ad = some (.int .i64 y)) (hO : Own B v L w) (hL : L.length ≤ 1048576) (hB : B ≤ w.heap.size) :
    ∃ v' w', (Builtin.append_ #[24, 24] ty #[v, .slice (some ad) 1 1]).run Try.prog w = .ok v' w' ∧ Own B v' (L ++ [y]) w' ∧ Own B v L w' ∧ Below B w w' := by
  obtain ⟨i0, hi, hz0, hz1, hz2⟩ := info_parts info64
  have hnews : ∀ j u, [Value.int .i64 y][j]? = some u → w.cell? (ad.add j) = some u := by
    intro j u hj
    match j, hj with
    | 0, hj =>
      simp at hj; subst hj
      rw [show ad.add 0 = ad by unfold Addr.add; split <;> simp_all]
      exact hy
  have h1 : ∀ u ∈ [Value.int .i64 y], u.oneCell' = true := by intro u hu; simp at hu; subst hu; rfl
  obtain ⟨v', w', hr, hown, hgrow, _, _⟩ := run_append_own_at (P := Try.prog) w B 24 ty 2 i0 (.int .i64 0) 1 8 Try.underlying24 hi hz0 hz1 hz2 rfl (by decide) v L.length (L.map (Value.int .i64)) hO ad 1 1 [.int .i64 y] rfl hnews h1 (by unfold maxLen; omega) (by omega) hB
  refine ⟨v', w', hr, ?_, ?_, ?_⟩
  · unfold Own
    rw [List.length_append, List.map_append]
    exact hown
  · rcases hO.2 with ⟨rfl, h0⟩ | ⟨g, cap, cur, rfl, hbg, hg, hnc, hcm, hcs, htake⟩
    · have : L = [] := List.length_eq_zero_iff.1 h0
      subst this
      exact Own.zero _ _
    · by_cases hroom : L.length + 1 ≤ cap
      · have hr2 := run_append_room (P := Try.prog) w 24 ty 2 i0 Try.underlying24 hi g L.length cap cur hg ad 1 1 [.int .i64 y] (by rw [hz1]; rfl) hnews h1 hroom (by rw [hz1, hcs]; simp; omega)
        have e := hr.symm.trans hr2
        injection e with _ e2
        rw [e2]
        refine ⟨hO.1, .inr ⟨g, cap, _, rfl, hbg, setRow_heap w g cur _ 2 _ hg, hnc, hcm, ?_, ?_⟩⟩
        · rw [hz1]
          simp only [List.size_toArray, List.length_append, List.length_take, List.length_drop, Array.length_toList, List.length_cons, List.length_nil, Nat.mul_one] at hcs ⊢
          omega
        · rw [hz1, ← htake]
          simp only [Nat.mul_one] at htake ⊢
          have hcl : cur.toList.length = cap := by rw [Array.length_toList, hcs]; simp
          rw [List.append_assoc, List.take_append_of_le_length (by rw [List.length_take, hcl, Nat.min_eq_left hnc]; exact Nat.le_refl _), List.take_take, Nat.min_self]
      · have hcap : Builtin.nextslicecap (L.length + 1) cap * i0.bytes ≤ 281474976710656 := by
          rw [hz2]
          have := nextslicecap_le (need := L.length + 1) (old := cap)
          omega
        have hr2 := run_append_grow (P := Try.prog) w 24 ty 2 i0 (.int .i64 0) Try.underlying24 hi hz0 ⟨g, 0, none⟩ L.length cap (L.map (Value.int .i64)) (by rw [hz1]; simp) (World.ownsRow.cells hO rfl) ad 1 1 [.int .i64 y] (by rw [hz1]; rfl) hnews (by omega) (by omega) hcap
        have e := hr.symm.trans hr2
        injection e with _ e2
        rw [e2]
        exact Own.alloc (Own.drew hO) _
  · exact (Below.refl B w).grown hgrow hB (fun j hj => (World.ownsRow.lt hO j hj).1)

theorem wp_push {o : Oper} {a : Act} {K : Act → World → Prop} {Q : Exit → Act → World → Prop} (w : World) (s x : Operand)
    (ho : o.op = .call { callee := .builtin .append, args := #[s, x], argTypes := #[24, 24] }) (B : Nat) (v : Value) (L : List Int) (y : Int) (ad : Addr)
    (hs : a.eval s = v) (hx : a.eval x = .slice (some ad) 1 1) (hy : w.cell? ad = some (.int .i64 y)) (hO : Own B v L w) (hL : L.length ≤ 1048576) (hB : B ≤ w.heap.size)
    (h : ∀ v' w', Own B v' (L ++ [y]) w' → Own B v L w' → Below B w w' → K (a.put o.dst v') w') : o.wp Try.prog a w K Q := by
  obtain ⟨v', w', hr, h1, h2, h3⟩ := run_push (ty := o.type) w B v L y ad hy hO hL hB
  unfold Oper.wp execOp
  simp only [ho, resolve, invoke, builtin, Sem.run_bind, Sem.run_pure, Result.andThen_ok, List.map_toArray, List.map_cons, List.map_nil, hs, hx, hr]
  exact h v' w' h1 h2 h3

theorem step_push {ops : Array Oper} {o : Oper} {a : Act} {K : Act → World → Prop} {Q : Exit → Act → World → Prop} {E : Prop} (w : World) (hgd : o.guard = none) (s x : Operand)
    (ho : o.op = .call { callee := .builtin .append, args := #[s, x], argTypes := #[24, 24] }) (B : Nat) (v : Value) (L : List Int) (y : Int) (ad : Addr)
    (hs : a.eval s = v) (hx : a.eval x = .slice (some ad) 1 1) (hy : w.cell? ad = some (.int .i64 y)) (hO : Own B v L w) (hL : L.length ≤ 1048576) (hB : B ≤ w.heap.size)
    (h : ∀ v' w', Own B v' (L ++ [y]) w' → Own B v L w' → Below B w w' → K (a.put o.dst v') w') : if Region.wanted o (yielded ops a.tmps) = true then Oper.wp Try.prog o a w K Q else E := by
  have hw : Region.wanted o (yielded ops a.tmps) = true := by simp [Region.wanted, hgd]
  rw [if_pos hw]
  exact wp_push w s x ho B v L y ad hs hx hy hO hL hB h

end Go.Proofs.Ytlkgdfednejhiaa
