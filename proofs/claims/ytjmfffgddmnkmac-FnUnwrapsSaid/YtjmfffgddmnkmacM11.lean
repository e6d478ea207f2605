/- The number that occurs most often in a list of whole numbers, the least one of several such: what it is, that there is one alone, and how it is kept while a list is read. Condition: none. A number is appended to one of several lists of the call's own: the others stay as they were, and apart from it. Condition: not too many numbers. -/
import Derived.WalkKit
import Derived.Test.YtjmfffgddmnkmacM10
namespace Go.Proofs.Ytjmfffgddmnkmac
open Go Go.RowKit

/-- b is the least of the numbers of P that occur most often in L, m times; 0 if P has none -/
def BestIn (P L : List Int) (b : Int) (m : Nat) : Prop :=
  (P = [] ∧ b = 0 ∧ m = 0) ∨ (b ∈ P ∧ L.count b = m ∧ ∀ x ∈ P, L.count x < m ∨ (L.count x = m ∧ b ≤ x))

theorem BestIn.zero (L : List Int) : BestIn [] L 0 0 := .inl ⟨rfl, rfl, rfl⟩

theorem BestIn.one {L : List Int} {b c : Int} {m k : Nat} (h1 : BestIn L L b m) (h2 : BestIn L L c k) : b = c := by
  rcases h1 with ⟨e, hb, _⟩ | ⟨hb, hm, h1⟩
  · rcases h2 with ⟨_, hc, _⟩ | ⟨hc, _, _⟩
    · rw [hb, hc]
    · rw [e] at hc; cases hc
  · rcases h2 with ⟨e, hc, _⟩ | ⟨hc, hk, h2⟩
    · rw [e] at hb; cases hb
    · have a1 := h1 c hc
      have a2 := h2 b hb
      rw [hk] at a1
      rw [hm] at a2
      omega

theorem BestIn.perm {P Q : List Int} {b : Int} {m : Nat} (h : BestIn P P b m) (hp : P.Perm Q) : BestIn Q Q b m := by
  rcases h with ⟨e, hb, hm⟩ | ⟨hb, hm, h⟩
  · rw [e] at hp
    exact .inl ⟨List.nil_perm.1 hp, hb, hm⟩
  · refine .inr ⟨hp.mem_iff.1 hb, by rw [← hp.count_eq]; exact hm, fun x hx => ?_⟩
    rw [← hp.count_eq]
    exact h x (hp.mem_iff.2 hx)

/-- a number more, of which the whole list's count is known: it becomes the best -/
theorem BestIn.take {P L : List Int} {b : Int} {m : Nat} (h : BestIn P L b m) (y : Int) (hc : m < L.count y ∨ (L.count y = m ∧ y < b)) : BestIn (P ++ [y]) L y (L.count y) := by
  refine .inr ⟨by simp, rfl, fun x hx => ?_⟩
  rw [List.mem_append, List.mem_singleton] at hx
  rcases hx with hx | rfl
  · rcases h with ⟨e, _, _⟩ | ⟨hb, hm, h⟩
    · rw [e] at hx; cases hx
    · have := h x hx; omega
  · exact .inr ⟨rfl, Int.le_refl _⟩
/-- it doesn't -/
theorem BestIn.keep {P L : List Int} {b : Int} {m : Nat} (h : BestIn P L b m) (y : Int) (hy : 0 < L.count y) (hc : ¬ (m < L.count y ∨ (L.count y = m ∧ y < b))) : BestIn (P ++ [y]) L b m := by
  rcases h with ⟨e, hb, hm⟩ | ⟨hb, hm, h⟩
  · omega
  · refine .inr ⟨by simp [hb], hm, fun x hx => ?_⟩
    rw [List.mem_append, List.mem_singleton] at hx
    rcases hx with hx | rfl
    · exact h x hx
    · omega

/-- the number -/
noncomputable def mostOf (L : List Int) : Int := open Classical in if h : ∃ b, ∃ m, BestIn L L b m then Classical.choose h else 0
theorem mostOf_eq {L : List Int} {b : Int} {m : Nat} (h : BestIn L L b m) : mostOf L = b := by
  have hx : ∃ b, ∃ m, BestIn L L b m := ⟨b, m, h⟩
  unfold mostOf
  rw [dif_pos hx]
  obtain ⟨k, hk⟩ := Classical.choose_spec hx
  exact hk.one h

/-- how often a number occurs among the first k -/
def cntTo (L : List Int) (y : Int) (k : Nat) : Nat := (L.take k).count y
theorem cntTo_zero (L : List Int) (y : Int) : cntTo L y 0 = 0 := by simp [cntTo]
theorem take_snoc (L : List Int) (k : Nat) (hk : k < L.length) : L.take (k + 1) = L.take k ++ [L.getD k 0] := by
  rw [List.take_add_one, List.getD_eq_getElem?_getD, List.getElem?_eq_getElem hk]; rfl
theorem cntTo_hit (L : List Int) (y : Int) (k : Nat) (hk : k < L.length) (h : L.getD k 0 = y) : cntTo L y (k + 1) = cntTo L y k + 1 := by
  unfold cntTo; rw [take_snoc L k hk, List.count_append, h]; simp
theorem cntTo_miss (L : List Int) (y : Int) (k : Nat) (hk : k < L.length) (h : L.getD k 0 ≠ y) : cntTo L y (k + 1) = cntTo L y k := by
  unfold cntTo; rw [take_snoc L k hk, List.count_append, List.count_singleton, if_neg (by simpa using h)]; rfl
theorem cntTo_le (L : List Int) (y : Int) (k : Nat) : cntTo L y k ≤ k := Nat.le_trans List.count_le_length (by rw [List.length_take]; omega)
theorem cntTo_all (L : List Int) (y : Int) : cntTo L y L.length = L.count y := by unfold cntTo; rw [List.take_length]
theorem count_pos_at (L : List Int) (k : Nat) (hk : k < L.length) : 0 < L.count (L.getD k 0) := by
  rw [List.count_pos_iff, List.getD_eq_getElem?_getD, List.getElem?_eq_getElem hk]
  exact List.getElem_mem _

/-- in a sorted list: the counts of the numbers read so far -/
theorem sorted_le (S : List Int) (hS : S.Pairwise (· ≤ ·)) (i j : Nat) (hij : i ≤ j) (hj : j < S.length) : S.getD i 0 ≤ S.getD j 0 := by
  rw [List.getD_eq_getElem?_getD, List.getD_eq_getElem?_getD, List.getElem?_eq_getElem hj, List.getElem?_eq_getElem (by omega)]
  rcases Nat.lt_or_ge i j with h | h
  · exact List.pairwise_iff_getElem.1 hS i j (by omega) hj h
  · have : i = j := by omega
    subst this
    exact Int.le_refl _
theorem mem_take_at (S : List Int) (k : Nat) (x : Int) (h : x ∈ S.take k) : ∃ i, i < k ∧ i < S.length ∧ S.getD i 0 = x := by
  obtain ⟨i, hi, e⟩ := List.getElem_of_mem h
  rw [List.length_take] at hi
  rw [List.getElem_take] at e
  refine ⟨i, by omega, by omega, ?_⟩
  rw [List.getD_eq_getElem?_getD, List.getElem?_eq_getElem (by omega)]
  exact e
theorem at_mem_take (S : List Int) (k i : Nat) (hi : i < k) (hl : i < S.length) : S.getD i 0 ∈ S.take k := by
  have : S.getD i 0 = (S.take k)[i]'(by rw [List.length_take]; omega) := by
    rw [List.getElem_take, List.getD_eq_getElem?_getD, List.getElem?_eq_getElem hl]; rfl
  rw [this]
  exact List.getElem_mem _
/-- a new number begins with the count 0 -/
theorem fresh_count (S : List Int) (hS : S.Pairwise (· ≤ ·)) (k : Nat) (hk : k + 1 < S.length) (h : S.getD (k + 1) 0 ≠ S.getD k 0) : (S.take (k + 1)).count (S.getD (k + 1) 0) = 0 := by
  rw [List.count_eq_zero]
  intro hm
  obtain ⟨i, hi, hl, e⟩ := mem_take_at S (k + 1) _ hm
  have h1 := sorted_le S hS i k (by omega) (by omega)
  have h2 := sorted_le S hS k (k + 1) (by omega) hk
  omega

/-- the step of the program: P' = P and y; y is at least as great as all of P -/
theorem BestIn.up {P : List Int} {b : Int} {m : Nat} (h : BestIn P P b m) (y : Int) (hy : m < P.count y + 1) (hP : ∀ x ∈ P, x ≤ y) : BestIn (P ++ [y]) (P ++ [y]) y (P.count y + 1) := by
  have hcy : (P ++ [y]).count y = P.count y + 1 := by rw [List.count_append]; simp
  refine .inr ⟨by simp, hcy, fun x hx => ?_⟩
  by_cases e : x = y
  · subst e; exact .inr ⟨hcy, Int.le_refl _⟩
  · have hcx : (P ++ [y]).count x = P.count x := by rw [List.count_append, List.count_singleton]; simp; exact fun h => absurd h.symm e
    rw [hcx]
    rw [List.mem_append, List.mem_singleton] at hx
    rcases hx with hx | hx
    · rcases h with ⟨e, _, _⟩ | ⟨_, _, h⟩
      · rw [e] at hx; cases hx
      · have := h x hx; omega
    · exact absurd hx e
theorem BestIn.stay {P : List Int} {b : Int} {m : Nat} (h : BestIn P P b m) (y : Int) (hy : ¬ m < P.count y + 1) (hP : ∀ x ∈ P, x ≤ y) : BestIn (P ++ [y]) (P ++ [y]) b m := by
  have hcy : (P ++ [y]).count y = P.count y + 1 := by rw [List.count_append]; simp
  rcases h with ⟨_, _, hm⟩ | ⟨hb, hm, h⟩
  · omega
  · have hoth : ∀ x, x ≠ y → (P ++ [y]).count x = P.count x := fun x e => by rw [List.count_append, List.count_singleton]; simp; exact fun h => absurd h.symm e
    have hby : b ≠ y := fun e => by rw [e] at hm; omega
    refine .inr ⟨by simp [hb], by rw [hoth b hby]; exact hm, fun x hx => ?_⟩
    by_cases e : x = y
    · subst e
      rw [hcy]
      have := hP b hb
      omega
    · rw [hoth x e]
      rw [List.mem_append, List.mem_singleton] at hx
      rcases hx with hx | hx
      · exact h x hx
      · exact absurd hx e

end Go.Proofs.Ytjmfffgddmnkmac

namespace Go.Proofs.Ytjmfffgddmnkmac
open Go Go.RowKit

/-- two slices do not lie in one block -/
def Apart (u v : Value) : Prop := ∀ k, u.ownBlock = some k → v.ownBlock ≠ some k
theorem Apart.symm {u v : Value} (h : Apart u v) : Apart v u := fun k hv hu => h k hu hv

theorem run_push2 {ty : TypeId} (w : World) (B : Nat) (v : Value) (L : List Int) (y : Int) (ad : Addr) (hy : w.cell? ad = some (.int .i64 y)) (hO : Own B v L w) (hL : L.length ≤ 1048576) (hB : B ≤ w.heap.size) :
    ∃ v' w', (Builtin.append_ #[24, 24] ty #[v, .slice (some ad) 1 1]).run Try.prog w = .ok v' w' ∧ Own B v' (L ++ [y]) w' ∧ Below B w w' ∧ (∀ u M, Own B u M w → Apart u v → Own B u M w' ∧ Apart u v') := by
  obtain ⟨i0, hi, hz0, hz1, hz2⟩ := info_parts info64
  have hnews : ∀ j u, [Value.int .i64 y][j]? = some u → w.cell? (ad.add j) = some u := by
    intro j u hj
    match j, hj with
    | 0, hj =>
      simp at hj; subst hj
      rw [show ad.add 0 = ad by unfold Addr.add; split <;> simp_all]
      exact hy
  have h1 : ∀ u ∈ [Value.int .i64 y], u.oneCell' = true := by intro u hu; simp at hu; subst hu; rfl
  obtain ⟨v', w', hr, hown, hgrow, _, hat⟩ := run_append_own_at (P := Try.prog) w B 24 ty 2 i0 (.int .i64 0) 1 8 Try.underlying24 hi hz0 hz1 hz2 rfl (by decide) v L.length (L.map (Value.int .i64)) hO ad 1 1 [.int .i64 y] rfl hnews h1 (by unfold maxLen; omega) (by omega) hB
  refine ⟨v', w', hr, ?_, ?_, ?_⟩
  · unfold Own
    rw [List.length_append, List.map_append]
    exact hown
  · exact (Below.refl B w).grown hgrow hB (fun j hj => (World.ownsRow.lt hO j hj).1)
  · intro u M hu ha
    refine ⟨World.ownsRow.kept hu hgrow ?_, fun k hk hv => ?_⟩
    · cases hb : u.ownBlock
      · exact .inl rfl
      · exact .inr fun e => ha _ hb e.symm
    · rcases hat with h | h
      · exact ha k hk (by rw [← h]; exact hv)
      · rw [h] at hv
        injection hv with hv
        have := (World.ownsRow.lt hu k hk).2
        omega

theorem wp_push2 {o : Oper} {a : Act} {K : Act → World → Prop} {Q : Exit → Act → World → Prop} (w : World) (s x : Operand)
    (ho : o.op = .call { callee := .builtin .append, args := #[s, x], argTypes := #[24, 24] }) (B : Nat) (v : Value) (L : List Int) (y : Int) (ad : Addr)
    (hs : a.eval s = v) (hx : a.eval x = .slice (some ad) 1 1) (hy : w.cell? ad = some (.int .i64 y)) (hO : Own B v L w) (hL : L.length ≤ 1048576) (hB : B ≤ w.heap.size)
    (h : ∀ v' w', Own B v' (L ++ [y]) w' → Below B w w' → (∀ u M, Own B u M w → Apart u v → Own B u M w' ∧ Apart u v') → K (a.put o.dst v') w') : o.wp Try.prog a w K Q := by
  obtain ⟨v', w', hr, h1, h2, h3⟩ := run_push2 (ty := o.type) w B v L y ad hy hO hL hB
  unfold Oper.wp execOp
  simp only [ho, resolve, invoke, builtin, Sem.run_bind, Sem.run_pure, Result.andThen_ok, List.map_toArray, List.map_cons, List.map_nil, hs, hx, hr]
  exact h v' w' h1 h2 h3

theorem step_push2 {ops : Array Oper} {o : Oper} {a : Act} {K : Act → World → Prop} {Q : Exit → Act → World → Prop} {E : Prop} (w : World) (hgd : o.guard = none) (s x : Operand)
    (ho : o.op = .call { callee := .builtin .append, args := #[s, x], argTypes := #[24, 24] }) (B : Nat) (v : Value) (L : List Int) (y : Int) (ad : Addr)
    (hs : a.eval s = v) (hx : a.eval x = .slice (some ad) 1 1) (hy : w.cell? ad = some (.int .i64 y)) (hO : Own B v L w) (hL : L.length ≤ 1048576) (hB : B ≤ w.heap.size)
    (h : ∀ v' w', Own B v' (L ++ [y]) w' → Below B w w' → (∀ u M, Own B u M w → Apart u v → Own B u M w' ∧ Apart u v') → K (a.put o.dst v') w') : if Region.wanted o (yielded ops a.tmps) = true then Oper.wp Try.prog o a w K Q else E := by
  have hw : Region.wanted o (yielded ops a.tmps) = true := by simp [Region.wanted, hgd]
  rw [if_pos hw]
  exact wp_push2 w s x ho B v L y ad hs hx hy hO hL hB h

theorem wpList_push2 {ops : Array Oper} {rest : List Oper} {o : Oper} {a : Act} {Q : Exit → Act → World → Prop} {w : World} (hgd : o.guard = none) (s x : Operand)
    (ho : o.op = .call { callee := .builtin .append, args := #[s, x], argTypes := #[24, 24] }) (B : Nat) (v : Value) (L : List Int) (y : Int)
    (hs : a.eval s = v) (hx : a.eval x = .slice (some ⟨w.heap.size, 0, none⟩) 1 1) (hO : Own B v L w) (hL : L.length ≤ 1048576) (hB : B ≤ w.heap.size)
    (h : ∀ v' w', Own B v' (L ++ [y]) w' → Below B w w' → (∀ u M, Own B u M w → Apart u v → Own B u M w' ∧ Apart u v') → wpList Try.prog ops Q rest (a.put o.dst v') w') : wpList Try.prog ops Q (o :: rest) a (w.alloc (.cells #[.int .i64 y] 2)) := by
  refine wpList_plain hgd fun _ hK => ?_
  refine wp_push2 _ s x ho B v L y ⟨w.heap.size, 0, none⟩ hs hx (World.cell?_alloc_at _ _ _ _ rfl) (hO.alloc _) hL (by rw [World.size_alloc]; omega) (fun v' w' h1 h2 h3 => ?_)
  exact hK _ _ (h v' w' h1 (((Below.refl B w).alloc hB _).trans h2) (fun u M hu ha => h3 u M (hu.alloc _) ha))

/-- differences to the right, and to below, of the first k heights -/
def rowsD (m : Nat) (L : List Int) : Nat → List Int
  | 0 => []
  | k + 1 => if k % m < m - 1 then rowsD m L k ++ [L.getD (k + 1) 0 - L.getD k 0] else rowsD m L k
def colsD (m : Nat) (L : List Int) : Nat → List Int
  | 0 => []
  | k + 1 => if k / m < m - 1 then colsD m L k ++ [L.getD (k + m) 0 - L.getD k 0] else colsD m L k
theorem rowsD_yes (m : Nat) (L : List Int) (k : Nat) (h : k % m < m - 1) : rowsD m L k ++ [L.getD (k + 1) 0 - L.getD k 0] = rowsD m L (k + 1) := by
  rw [rowsD, if_pos h]
theorem rowsD_no (m : Nat) (L : List Int) (k : Nat) (h : ¬ k % m < m - 1) : rowsD m L k = rowsD m L (k + 1) := by
  rw [rowsD, if_neg h]
theorem colsD_yes (m : Nat) (L : List Int) (k : Nat) (h : k / m < m - 1) : colsD m L k ++ [L.getD (k + m) 0 - L.getD k 0] = colsD m L (k + 1) := by
  rw [colsD, if_pos h]
theorem colsD_no (m : Nat) (L : List Int) (k : Nat) (h : ¬ k / m < m - 1) : colsD m L k = colsD m L (k + 1) := by
  rw [colsD, if_neg h]
theorem rowsD_len (m : Nat) (L : List Int) : ∀ k, (rowsD m L k).length ≤ k
  | 0 => Nat.le_refl _
  | k + 1 => by
    have := rowsD_len m L k
    rw [rowsD]
    split
    · rw [List.length_append]; simp; omega
    · omega
theorem colsD_len (m : Nat) (L : List Int) : ∀ k, (colsD m L k).length ≤ k
  | 0 => Nat.le_refl _
  | k + 1 => by
    have := colsD_len m L k
    rw [colsD]
    split
    · rw [List.length_append]; simp; omega
    · omega
/-- where a difference to the right, to below, is taken there is a cell -/
theorem right_lt (m k N : Nat) (hN : m * m = N) (h : k % m < m - 1) (hk : k < N) : k + 1 < N := by
  rcases Nat.lt_or_ge (k + 1) N with h1 | h1
  · exact h1
  · exfalso
    have e : k + 1 = m * m := by omega
    have h2 : (k + 1) % m = 0 := by rw [e]; exact Nat.mul_mod_left m m
    have h3 : (k + 1) % m = k % m + 1 := by rw [Nat.add_mod, Nat.mod_eq_of_lt (show 1 < m by omega), Nat.mod_eq_of_lt (by omega)]
    omega
theorem below_lt (m k N : Nat) (hN : m * m = N) (h : k / m < m - 1) : k + m < N := by
  have h0 : 0 < m := Nat.pos_of_ne_zero (fun e => by rw [e] at h; simp at h)
  have h1 := Nat.div_add_mod k m
  have h2 := Nat.mod_lt k h0
  generalize k / m = q at *
  have h3 : m * (q + 2) ≤ m * m := Nat.mul_le_mul_left _ (by omega)
  rw [Nat.mul_add, hN] at h3
  generalize k % m = r at *
  generalize m * q = p at *
  omega

end Go.Proofs.Ytjmfffgddmnkmac
