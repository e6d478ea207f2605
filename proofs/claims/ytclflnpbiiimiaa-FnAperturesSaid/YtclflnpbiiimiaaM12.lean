/- A list of float32's of the call's own: it begins empty, and a number is appended to it. Condition: not too many numbers. A number is appended to a list of the call's own, in a statement that draws its order, too: the new list, and the old one as it was. Condition: not too many numbers. What program and model answer to weights that are to be normed: the list and the code. Condition: none. -/
import Derived.Test.YtclflnpbiiimiaaM11
import Derived.Maps.AppendAt
import Derived.RegionTactic
namespace Go.Proofs.Ytclflnpbiiimiaa
open Go Go.RowKit

theorem OwnF.empty (B : Nat) (w : World) (hB : B ≤ w.heap.size) : OwnF B (.slice (some ⟨w.heap.size, 0, none⟩) 0 0) [] (w.alloc (.cells #[] 40)) :=
  ⟨rfl, .inr ⟨w.heap.size, 0, #[], rfl, hB, heap_alloc_new w _, by simp, by simp, rfl, rfl⟩⟩

theorem wpList_pushF {ops : Array Oper} {rest : List Oper} {o : Oper} {a : Act} {Q : Exit → Act → World → Prop} {w : World} (hgd : o.guard = none) (s x : Operand)
    (ho : o.op = .call { callee := .builtin .append, args := #[s, x], argTypes := #[25, 25] }) (B : Nat) (v : Value) (L : List Nat) (y : Nat)
    (hs : a.eval s = v) (hx : a.eval x = .slice (some ⟨w.heap.size, 0, none⟩) 1 1) (hO : OwnF B v L w) (hL : L.length ≤ 1048576) (hB : B ≤ w.heap.size)
    (h : ∀ v' w', OwnF B v' (L ++ [y]) w' → Below B w w' → wpList Try.prog ops Q rest (a.put o.dst v') w') : wpList Try.prog ops Q (o :: rest) a (w.alloc (.cells #[.float .f32 y] 40)) := by
  obtain ⟨i0, hi, hz0, hz1, hz2⟩ := info_parts infoF
  refine wpList_append_own _ hgd s x 25 ho B 40 i0 (.float .f32 0) 1 4 Try.underlying25 hi hz0 hz1 hz2 rfl (by decide) v L.length (L.map (Value.float .f32)) hs (hO.alloc _) ⟨w.heap.size, 0, none⟩ 1 1 [.float .f32 y] hx rfl ?_ ?_ ?_ ?_ ?_ ?_
  · intro j u hj
    match j, hj with
    | 0, hj =>
      simp at hj; subst hj
      simp [Addr.add, World.cell?_alloc_at]
  · intro u hu; simp at hu; subst hu; rfl
  · unfold maxLen; omega
  · omega
  · rw [World.size_alloc]; omega
  · intro v' w' hown hgrow _
    refine h v' w' ?_ ?_
    · unfold OwnF
      rw [List.length_append, List.map_append]
      exact hown
    · refine ((Below.refl B w).alloc hB _).grown hgrow (by rw [World.size_alloc]; omega) (fun j hj => ?_)
      exact (World.ownsRow.lt hO j hj).1

/-- the shape of lists that grow -/
theorem OwnF.one {B : Nat} {v : Value} {L M : List Nat} {w : World} (h : OwnF B v L w) (e : L = M) : OwnF B v M w := by rw [← e]; exact h

end Go.Proofs.Ytclflnpbiiimiaa

namespace Go.Proofs.Ytclflnpbiiimiaa
open Go Go.RowKit

theorem run_pushF {ty : TypeId} (w : World) (B : Nat) (v : Value) (L : List Nat) (y : Nat) (ad : Addr) (hy : w.cell? ad = some (.float .f32 y)) (hO : OwnF B v L w) (hL : L.length ≤ 1048576) (hB : B ≤ w.heap.size) :
    ∃ v' w', (Builtin.append_ #[25, 25] ty #[v, .slice (some ad) 1 1]).run Try.prog w = .ok v' w' ∧ OwnF B v' (L ++ [y]) w' ∧ OwnF B v L w' ∧ Below B w w' := by
  obtain ⟨i0, hi, hz0, hz1, hz2⟩ := info_parts infoF
  have hnews : ∀ j u, [Value.float .f32 y][j]? = some u → w.cell? (ad.add j) = some u := by
    intro j u hj
    match j, hj with
    | 0, hj =>
      simp at hj; subst hj
      rw [show ad.add 0 = ad by unfold Addr.add; split <;> simp_all]
      exact hy
  have h1 : ∀ u ∈ [Value.float .f32 y], u.oneCell' = true := by intro u hu; simp at hu; subst hu; rfl
  obtain ⟨v', w', hr, hown, hgrow, _, _⟩ := run_append_own_at (P := Try.prog) w B 25 ty 40 i0 (.float .f32 0) 1 4 Try.underlying25 hi hz0 hz1 hz2 rfl (by decide) v L.length (L.map (Value.float .f32)) hO ad 1 1 [.float .f32 y] rfl hnews h1 (by unfold maxLen; omega) (by omega) hB
  refine ⟨v', w', hr, ?_, ?_, ?_⟩
  · unfold OwnF
    rw [List.length_append, List.map_append]
    exact hown
  · rcases hO.2 with ⟨rfl, h0⟩ | ⟨g, cap, cur, rfl, hbg, hg, hnc, hcm, hcs, htake⟩
    · have : L = [] := List.length_eq_zero_iff.1 h0
      subst this
      exact OwnF.zero _ _
    · by_cases hroom : L.length + 1 ≤ cap
      · have hr2 := run_append_room (P := Try.prog) w 25 ty 40 i0 Try.underlying25 hi g L.length cap cur hg ad 1 1 [.float .f32 y] (by rw [hz1]; rfl) hnews h1 hroom (by rw [hz1, hcs]; simp; omega)
        have e := hr.symm.trans hr2
        injection e with _ e2
        rw [e2]
        refine ⟨hO.1, .inr ⟨g, cap, _, rfl, hbg, setRow_heap w g cur _ 40 _ hg, hnc, hcm, ?_, ?_⟩⟩
        · rw [hz1]
          simp only [List.size_toArray, List.length_append, List.length_take, List.length_drop, Array.length_toList, List.length_cons, List.length_nil, Nat.mul_one] at hcs ⊢
          omega
        · rw [hz1, ← htake]
          simp only [Nat.mul_one] at htake ⊢
          have hcl : cur.toList.length = cap := by rw [Array.length_toList, hcs]; simp
          rw [List.append_assoc, List.take_append_of_le_length (by rw [List.length_take, hcl, Nat.min_eq_left hnc]; exact Nat.le_refl _), List.take_take, Nat.min_self]
      · have hcap : Builtin.nextslicecap (L.length + 1) cap * i0.bytes ≤ 281474976710656 := by
          rw [hz2]
          have := nextslicecap_le (need := L.length + 1) (old := cap)
          omega
        have hr2 := run_append_grow (P := Try.prog) w 25 ty 40 i0 (.float .f32 0) Try.underlying25 hi hz0 ⟨g, 0, none⟩ L.length cap (L.map (Value.float .f32)) (by rw [hz1]; simp) (World.ownsRow.cells hO rfl) ad 1 1 [.float .f32 y] (by rw [hz1]; rfl) hnews (by omega) (by omega) hcap
        have e := hr.symm.trans hr2
        injection e with _ e2
        rw [e2]
        exact OwnF.alloc (OwnF.drew hO) _
  · exact (Below.refl B w).grown hgrow hB (fun j hj => (World.ownsRow.lt hO j hj).1)

theorem wp_pushF {o : Oper} {a : Act} {K : Act → World → Prop} {Q : Exit → Act → World → Prop} (w : World) (s x : Operand)
    (ho : o.op = .call { callee := .builtin .append, args := #[s, x], argTypes := #[25, 25] }) (B : Nat) (v : Value) (L : List Nat) (y : Nat) (ad : Addr)
    (hs : a.eval s = v) (hx : a.eval x = .slice (some ad) 1 1) (hy : w.cell? ad = some (.float .f32 y)) (hO : OwnF B v L w) (hL : L.length ≤ 1048576) (hB : B ≤ w.heap.size)
    (h : ∀ v' w', OwnF B v' (L ++ [y]) w' → OwnF B v L w' → Below B w w' → K (a.put o.dst v') w') : o.wp Try.prog a w K Q := by
  obtain ⟨v', w', hr, h1, h2, h3⟩ := run_pushF (ty := o.type) w B v L y ad hy hO hL hB
  unfold Oper.wp execOp
  simp only [ho, resolve, invoke, builtin, Sem.run_bind, Sem.run_pure, Result.andThen_ok, List.map_toArray, List.map_cons, List.map_nil, hs, hx, hr]
  exact h v' w' h1 h2 h3

theorem step_pushF {ops : Array Oper} {o : Oper} {a : Act} {K : Act → World → Prop} {Q : Exit → Act → World → Prop} {E : Prop} (w : World) (hgd : o.guard = none) (s x : Operand)
    (ho : o.op = .call { callee := .builtin .append, args := #[s, x], argTypes := #[25, 25] }) (B : Nat) (v : Value) (L : List Nat) (y : Nat) (ad : Addr)
    (hs : a.eval s = v) (hx : a.eval x = .slice (some ad) 1 1) (hy : w.cell? ad = some (.float .f32 y)) (hO : OwnF B v L w) (hL : L.length ≤ 1048576) (hB : B ≤ w.heap.size)
    (h : ∀ v' w', OwnF B v' (L ++ [y]) w' → OwnF B v L w' → Below B w w' → K (a.put o.dst v') w') : if Region.wanted o (yielded ops a.tmps) = true then Oper.wp Try.prog o a w K Q else E := by
  have hw : Region.wanted o (yielded ops a.tmps) = true := by simp [Region.wanted, hgd]
  rw [if_pos hw]
  exact wp_pushF w s x ho B v L y ad hs hx hy hO hL hB h

end Go.Proofs.Ytclflnpbiiimiaa

namespace Go.Proofs.Ytclflnpbiiimiaa
open Go Go.RowKit

theorem all_no {L : List Nat} {f : Nat → Bool} (i : Nat) (hi : i < L.length) (h : f (L.getD i 0) = false) : L.all f = false := by
  rw [List.getD_eq_getElem?_getD, List.getElem?_eq_getElem hi] at h
  rw [List.all_eq_false]
  exact ⟨L[i], List.getElem_mem hi, by simpa using h⟩
theorem all_yes {L : List Nat} {f : Nat → Bool} (h : ∀ i, i < L.length → f (L.getD i 0) = true) : L.all f = true := by
  rw [List.all_eq_true]
  intro x hx
  obtain ⟨i, hi, rfl⟩ := List.getElem_of_mem hx
  have := h i hi
  rwa [List.getD_eq_getElem?_getD, List.getElem?_eq_getElem hi] at this
theorem all_at {L : List Nat} {f : Nat → Bool} (h : L.all f = true) (i : Nat) (hi : i < L.length) : f (L.getD i 0) = true := by
  rw [List.getD_eq_getElem?_getD, List.getElem?_eq_getElem hi]
  exact (List.all_eq_true.1 h) _ (List.getElem_mem hi)

/-- the sum from the left -/
def sumF (L : List Nat) : Nat := L.foldl addS 0
theorem sumF_succ (L : List Nat) (k : Nat) (hk : k < L.length) : sumF (L.take (k + 1)) = addS (sumF (L.take k)) (L.getD k 0) := by
  unfold sumF
  rw [take_succ_getDF L k hk, List.foldl_append]
  rfl
theorem sumF_all (L : List Nat) (k : Nat) (h : L.length ≤ k) : sumF (L.take k) = sumF L := by rw [List.take_of_length_le h]
/-- numbers of at least 0 -/
def posF (x : Nat) : Bool := fin x && !ltz x
theorem posF_yes {x : Nat} (h : posF x = true) : fin x = true ∧ ltz x = false := by
  unfold posF at h; simpa using h
theorem sumF_any (L : List Nat) (h : L.all posF = true) (k : Nat) : Sm (sumF (L.take k)) ∧ ∀ x ∈ L.take k, magF x ≤ sumF (L.take k) := by
  obtain ⟨h1, _, h3⟩ := fold_any (L.take k) 0 sm_zero (fun x hx => posF_yes ((List.all_eq_true.1 h) x (List.mem_of_mem_take hx)))
  exact ⟨h1, h3⟩

def divS (x y : Nat) : Nat := (Ieee.single.div x y).getD 0

/-- the code of weights that are none -/
def wtCode (L : List Nat) : Int := if L.all fin = false then 1 else if 1 ≤ L.length ∧ L.length ≤ 16 ∧ L.all posF = true then 0 else 2
def nwCode (L : List Nat) : Int := if wtCode L = 0 then (if fin (sumF L) = false then 3 else if eqz (sumF L) = true then 5 else 0) else wtCode L
def nwList (L : List Nat) : List Nat := if nwCode L = 0 then L.map (fun x => divS x (sumF L)) else []

theorem wt_zero {L : List Nat} (h : wtCode L = 0) : L.all fin = true ∧ 1 ≤ L.length ∧ L.length ≤ 16 ∧ L.all posF = true := by
  unfold wtCode at h
  cases hf : L.all fin
  · rw [if_pos hf] at h; cases h
  · rw [if_neg (by rw [hf]; decide)] at h
    by_cases h2 : 1 ≤ L.length ∧ L.length ≤ 16 ∧ L.all posF = true
    · exact ⟨rfl, h2⟩
    · rw [if_neg h2] at h; cases h
theorem nw_other (L : List Nat) (c : Int) (h : wtCode L = c) (hc : c ≠ 0) : nwCode L = c ∧ nwList L = [] := by
  have e : nwCode L = c := by unfold nwCode; rw [if_neg (by omega)]; exact h
  exact ⟨e, by unfold nwList; rw [if_neg (by omega)]⟩
theorem nw_nan (L : List Nat) (h : L.all fin = false) : nwCode L = 1 ∧ nwList L = [] :=
  nw_other L 1 (by unfold wtCode; rw [if_pos h]) (by decide)
theorem nw_len (L : List Nat) (h : L.all fin = true) (h2 : ¬ (1 ≤ L.length ∧ L.length ≤ 16)) : nwCode L = 2 ∧ nwList L = [] :=
  nw_other L 2 (by unfold wtCode; rw [if_neg (by rw [h]; decide), if_neg (fun h3 => h2 ⟨h3.1, h3.2.1⟩)]) (by decide)
theorem nw_neg (L : List Nat) (h : L.all fin = true) (h2 : L.all posF = false) : nwCode L = 2 ∧ nwList L = [] :=
  nw_other L 2 (by unfold wtCode; rw [if_neg (by rw [h]; decide), if_neg (fun h3 => by rw [h3.2.2] at h2; cases h2)]) (by decide)
theorem wt_yes (L : List Nat) (h : L.all fin = true) (h1 : 1 ≤ L.length) (h2 : L.length ≤ 16) (h3 : L.all posF = true) : wtCode L = 0 := by
  unfold wtCode; rw [if_neg (by rw [h]; decide), if_pos ⟨h1, h2, h3⟩]
theorem nw_lim (L : List Nat) (h : wtCode L = 0) (h2 : fin (sumF L) = false) : nwCode L = 3 ∧ nwList L = [] := by
  have e : nwCode L = 3 := by unfold nwCode; rw [if_pos h, if_pos h2]
  exact ⟨e, by unfold nwList; rw [if_neg (by omega)]⟩
theorem nw_state (L : List Nat) (h : wtCode L = 0) (h2 : fin (sumF L) = true) (h3 : eqz (sumF L) = true) : nwCode L = 5 ∧ nwList L = [] := by
  have e : nwCode L = 5 := by unfold nwCode; rw [if_pos h, if_neg (by rw [h2]; decide), if_pos h3]
  exact ⟨e, by unfold nwList; rw [if_neg (by omega)]⟩
theorem nw_yes (L : List Nat) (h : wtCode L = 0) (h2 : fin (sumF L) = true) (h3 : eqz (sumF L) = false) : nwCode L = 0 ∧ nwList L = L.map (fun x => divS x (sumF L)) := by
  have e : nwCode L = 0 := by unfold nwCode; rw [if_pos h, if_neg (by rw [h2]; decide), if_neg (by rw [h3]; decide)]
  exact ⟨e, by unfold nwList; rw [if_pos e]⟩
/-- the quotient by the sum -/
theorem nw_div (L : List Nat) (h : wtCode L = 0) (h2 : fin (sumF L) = true) (h3 : eqz (sumF L) = false) (i : Nat) (hi : i < L.length) : Ieee.single.div (L.getD i 0) (sumF L) = some (divS (L.getD i 0) (sumF L)) ∧ fin (divS (L.getD i 0) (sumF L)) = true := by
  obtain ⟨_, _, _, hp⟩ := wt_zero h
  have hs := sumF_any L hp L.length
  rw [List.take_length] at hs
  have hm : L.getD i 0 ∈ L := by
    rw [List.getD_eq_getElem?_getD, List.getElem?_eq_getElem hi]
    exact List.getElem_mem hi
  obtain ⟨r, h4, h5⟩ := div_fin (L.getD i 0) (sumF L) (posF_yes (all_at hp i hi)).1 (sm_fin _ hs.1 h2) h3 (hs.2 _ hm)
  have e : divS (L.getD i 0) (sumF L) = r := by unfold divS; rw [h4]; rfl
  rw [e]
  exact ⟨h4, h5⟩
theorem map_len (L : List Nat) (f : Nat → Nat) : (L.map f).length = L.length := List.length_map _
theorem nw_take (L : List Nat) (f : Nat → Nat) (k : Nat) (hk : k < L.length) : (L.take (k + 1)).map f = (L.take k).map f ++ [f (L.getD k 0)] := by
  rw [take_succ_getDF L k hk, List.map_append]; rfl
end Go.Proofs.Ytclflnpbiiimiaa
