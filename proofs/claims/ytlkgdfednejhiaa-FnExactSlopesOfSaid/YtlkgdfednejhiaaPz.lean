/- A number is appended to one of several lists of the call's own: the others stay as they were, and apart from it. Condition: not too many numbers. -/
import Derived.Test.YtlkgdfednejhiaaHv
namespace Go.Proofs.Ytlkgdfednejhiaa
open Go Go.RowKit

/-- two slices do not lie in one block -/
def Apart (u v : Value) : Prop := ∀ k, u.ownBlock = some k → v.ownBlock ≠ some k
theorem Apart.symm {u v : Value} (h : Apart u v) : Apart v u := fun k hv hu => h k hu hv

theorem run_push2 {ty : TypeId} (w : World) (B : Nat) (v : Value) (L : List Int) (y : Int) (ad : Addr) (hy : w.cell? ad = some (.int .i64 y)) (hO : Own B v L w) (hL : L.length ≤ 1048576) (hB : B ≤ w.heap.size) :
    ∃ v' w', (Builtin.append_ #[24, 24] ty #[v, .slice (some ad) 1 1]).run Try.prog w = .ok v' w' ∧ Own B v' (L ++ [y]) w' ∧ Below B w w' ∧ (∀ u M, Own B u M w → Apart u v → Own B u M w' ∧ Apart u v') := by
  obtain ⟨i0, hi, hz0, hz1, hz2⟩ := info_parts info64
  have hnews : ∀ j u, [Value.int .i64 y][j]? = some u → w.cell? (ad.add j) = some u := by
    intro j u hj
    match j, hj with
    | 0, hj =>
      simp at hj; subst hj
      rw [show ad.add 0 = ad by unfold Addr.add; split <;> simp_all]
      exact hy
  have h1 : ∀ u ∈ [Value.int .i64 y], u.oneCell' = true := by intro u hu; simp at hu; subst hu; rfl
  obtain ⟨v', w', hr, hown, hgrow, _, hat⟩ := run_append_own_at (P := Try.prog) w B 24 ty 2 i0 (.int .i64 0) 1 8 Try.underlying24 hi hz0 hz1 hz2 rfl (by decide) v L.length (L.map (Value.int .i64)) hO ad 1 1 [.int .i64 y] rfl hnews h1 (by unfold maxLen; omega) (by omega) hB
  refine ⟨v', w', hr, ?_, ?_, ?_⟩
  · unfold Own
    rw [List.length_append, List.map_append]
    exact hown
  · exact (Below.refl B w).grown hgrow hB (fun j hj => (World.ownsRow.lt hO j hj).1)
  · intro u M hu ha
    refine ⟨World.ownsRow.kept hu hgrow ?_, fun k hk hv => ?_⟩
    · cases hb : u.ownBlock
      · exact .inl rfl
      · exact .inr fun e => ha _ hb e.symm
    · rcases hat with h | h
      · exact ha k hk (by rw [← h]; exact hv)
      · rw [h] at hv
        injection hv with hv
        have := (World.ownsRow.lt hu k hk).2
        omega

theorem wp_push2 {o : Oper} {a : Act} {K : Act → World → Prop} {Q : Exit → Act → World → Prop} (w : World) (s x : Operand)
    (ho : o.op = .call { callee := .builtin .append, args := #[s, x], argTypes := #[24, 24] }) (B : Nat) (v : Value) (L : List Int) (y : Int) (ad : Addr)
    (hs : a.eval s = v) (hx : a.eval x = .slice (some ad) 1 1) (hy : w.cell? ad = some (.int .i64 y)) (hO : Own B v L w) (hL : L.length ≤ 1048576) (hB : B ≤ w.heap.size)
    (h : ∀ v' w', Own B v' (L ++ [y]) w' → Below B w w' → (∀ u M, Own B u M w → Apart u v → Own B u M w' ∧ Apart u v') → K (a.put o.dst v') w') : o.wp Try.prog a w K Q := by
  obtain ⟨v', w', hr, h1, h2, h3⟩ := run_push2 (ty := o.type) w B v L y ad hy hO hL hB
  unfold Oper.wp execOp
  simp only [ho, resolve, invoke, builtin, Sem.run_bind, Sem.run_pure, Result.andThen_ok, List.map_toArray, List.map_cons, List.map_nil, hs, hx, hr]
  exact h v' w' h1 h2 h3

theorem step_push2 {ops : Array Oper} {o : Oper} {a : Act} {K : Act → World → Prop} {Q : Exit → Act → World → Prop} {E : Prop} (w : World) (hgd : o.guard = none) (s x : Operand)
    (ho : o.op = .call { callee := .builtin .append, args := #[s, x], argTypes := #[24, 24] }) (B : Nat) (v : Value) (L : List Int) (y : Int) (ad : Addr)
    (hs : a.eval s = v) (hx : a.eval x = .slice (some ad) 1 1) (hy : w.cell? ad = some (.int .i64 y)) (hO : Own B v L w) (hL : L.length ≤ 1048576) (hB : B ≤ w.heap.size)
    (h : ∀ v' w', Own B v' (L ++ [y]) w' → Below B w w' → (∀ u M, Own B u M w → Apart u v → Own B u M w' ∧ Apart u v') → K (a.put o.dst v') w') : if Region.wanted o (yielded ops a.tmps) = true then Oper.wp Try.prog o a w K Q else E := by
  have hw : Region.wanted o (yielded ops a.tmps) = true := by simp [Region.wanted, hgd]
  rw [if_pos hw]
  exact wp_push2 w s x ho B v L y ad hs hx hy hO hL hB h

theorem wpList_push2 {ops : Array Oper} {rest : List Oper} {o : Oper} {a : Act} {Q : Exit → Act → World → Prop} {w : World} (hgd : o.guard = none) (s x : Operand)
    (ho : o.op = .call { callee := .builtin .append, args := #[s, x], argTypes := #[24, 24] }) (B : Nat) (v : Value) (L : List Int) (y : Int)
    (hs : a.eval s = v) (hx : a.eval x = .slice (some ⟨w.heap.size, 0, none⟩) 1 1) (hO : Own B v L w) (hL : L.length ≤ 1048576) (hB : B ≤ w.heap.size)
    (h : ∀ v' w', Own B v' (L ++ [y]) w' → Below B w w' → (∀ u M, Own B u M w → Apart u v → Own B u M w' ∧ Apart u v') → wpList Try.prog ops Q rest (a.put o.dst v') w') : wpList Try.prog ops Q (o :: rest) a (w.alloc (.cells #[.int .i64 y] 2)) := by
  refine wpList_plain hgd fun _ hK => ?_
  refine wp_push2 _ s x ho B v L y ⟨w.heap.size, 0, none⟩ hs hx (World.cell?_alloc_at _ _ _ _ rfl) (hO.alloc _) hL (by rw [World.size_alloc]; omega) (fun v' w' h1 h2 h3 => ?_)
  exact hK _ _ (h v' w' h1 (((Below.refl B w).alloc hB _).trans h2) (fun u M hu ha => h3 u M (hu.alloc _) ha))

/-- differences to the right, and to below, of the first k heights -/
def rowsD (m : Nat) (L : List Int) : Nat → List Int
  | 0 => []
  | k + 1 => if k % m < m - 1 then rowsD m L k ++ [L.getD (k + 1) 0 - L.getD k 0] else rowsD m L k
def colsD (m : Nat) (L : List Int) : Nat → List Int
  | 0 => []
  | k + 1 => if k / m < m - 1 then colsD m L k ++ [L.getD (k + m) 0 - L.getD k 0] else colsD m L k
theorem rowsD_yes (m : Nat) (L : List Int) (k : Nat) (h : k % m < m - 1) : rowsD m L k ++ [L.getD (k + 1) 0 - L.getD k 0] = rowsD m L (k + 1) := by
  rw [rowsD, if_pos h]
theorem rowsD_no (m : Nat) (L : List Int) (k : Nat) (h : ¬ k % m < m - 1) : rowsD m L k = rowsD m L (k + 1) := by
  rw [rowsD, if_neg h]
theorem colsD_yes (m : Nat) (L : List Int) (k : Nat) (h : k / m < m - 1) : colsD m L k ++ [L.getD (k + m) 0 - L.getD k 0] = colsD m L (k + 1) := by
  rw [colsD, if_pos h]
theorem colsD_no (m : Nat) (L : List Int) (k : Nat) (h : ¬ k / m < m - 1) : colsD m L k = colsD m L (k + 1) := by
  rw [colsD, if_neg h]
theorem rowsD_len (m : Nat) (L : List Int) : ∀ k, (rowsD m L k).length ≤ k
  | 0 => Nat.le_refl _
  | k + 1 => by
    have := rowsD_len m L k
    rw [rowsD]
    split
    · rw [List.length_append]; simp; omega
    · omega
theorem colsD_len (m : Nat) (L : List Int) : ∀ k, (colsD m L k).length ≤ k
  | 0 => Nat.le_refl _
  | k + 1 => by
    have := colsD_len m L k
    rw [colsD]
    split
    · rw [List.length_append]; simp; omega
    · omega
/-- where a difference to the right, to below, is taken there is a cell -/
theorem right_lt (m k N : Nat) (hN : m * m = N) (h : k % m < m - 1) (hk : k < N) : k + 1 < N := by
  rcases Nat.lt_or_ge (k + 1) N with h1 | h1
  · exact h1
  · exfalso
    have e : k + 1 = m * m := by omega
    have h2 : (k + 1) % m = 0 := by rw [e]; exact Nat.mul_mod_left m m
    have h3 : (k + 1) % m = k % m + 1 := by rw [Nat.add_mod, Nat.mod_eq_of_lt (show 1 < m by omega), Nat.mod_eq_of_lt (by omega)]
    omega
theorem below_lt (m k N : Nat) (hN : m * m = N) (h : k / m < m - 1) : k + m < N := by
  have h0 : 0 < m := Nat.pos_of_ne_zero (fun e => by rw [e] at h; simp at h)
  have h1 := Nat.div_add_mod k m
  have h2 := Nat.mod_lt k h0
  generalize k / m = q at *
  have h3 : m * (q + 2) ≤ m * m := Nat.mul_le_mul_left _ (by omega)
  rw [Nat.mul_add, hN] at h3
  generalize k % m = r at *
  generalize m * q = p at *
  omega

end Go.Proofs.Ytlkgdfednejhiaa
