/- A number is appended to a list of the call's own, in a statement that draws its order, too: the new list, and the old one as it was. Condition: not too many numbers. What program and model answer to weights that are to be normed: the list and the code. Condition: none. Codes of Walsh and of Legendre, sums by codes, correlations: what they are, number for number. Condition: none. -/
import Derived.Test.YtclflnpbiiimiaaDoorM12
import Derived.Maps.AppendAt
import Derived.RegionTactic
import Derived.Test.YtclflnpbiiimiaaDoorM11
namespace Go.Proofs.YtclflnpbiiimiaaDoor
open Go Go.RowKit

theorem run_pushF {ty : TypeId} (w : World) (B : Nat) (v : Value) (L : List Nat) (y : Nat) (ad : Addr) (hy : w.cell? ad = some (.float .f32 y)) (hO : OwnF B v L w) (hL : L.length ≤ 1048576) (hB : B ≤ w.heap.size) :
    ∃ v' w', (Builtin.append_ #[26, 26] ty #[v, .slice (some ad) 1 1]).run Tryd.prog w = .ok v' w' ∧ OwnF B v' (L ++ [y]) w' ∧ OwnF B v L w' ∧ Below B w w' := by
  obtain ⟨i0, hi, hz0, hz1, hz2⟩ := info_parts infoF
  have hnews : ∀ j u, [Value.float .f32 y][j]? = some u → w.cell? (ad.add j) = some u := by
    intro j u hj
    match j, hj with
    | 0, hj =>
      simp at hj; subst hj
      rw [show ad.add 0 = ad by unfold Addr.add; split <;> simp_all]
      exact hy
  have h1 : ∀ u ∈ [Value.float .f32 y], u.oneCell' = true := by intro u hu; simp at hu; subst hu; rfl
  obtain ⟨v', w', hr, hown, hgrow, _, _⟩ := run_append_own_at (P := Tryd.prog) w B 26 ty 38 i0 (.float .f32 0) 1 4 Tryd.underlying26 hi hz0 hz1 hz2 rfl (by decide) v L.length (L.map (Value.float .f32)) hO ad 1 1 [.float .f32 y] rfl hnews h1 (by unfold maxLen; omega) (by omega) hB
  refine ⟨v', w', hr, ?_, ?_, ?_⟩
  · unfold OwnF
    rw [List.length_append, List.map_append]
    exact hown
  · rcases hO.2 with ⟨rfl, h0⟩ | ⟨g, cap, cur, rfl, hbg, hg, hnc, hcm, hcs, htake⟩
    · have : L = [] := List.length_eq_zero_iff.1 h0
      subst this
      exact OwnF.zero _ _
    · by_cases hroom : L.length + 1 ≤ cap
      · have hr2 := run_append_room (P := Tryd.prog) w 26 ty 38 i0 Tryd.underlying26 hi g L.length cap cur hg ad 1 1 [.float .f32 y] (by rw [hz1]; rfl) hnews h1 hroom (by rw [hz1, hcs]; simp; omega)
        have e := hr.symm.trans hr2
        injection e with _ e2
        rw [e2]
        refine ⟨hO.1, .inr ⟨g, cap, _, rfl, hbg, setRow_heap w g cur _ 38 _ hg, hnc, hcm, ?_, ?_⟩⟩
        · rw [hz1]
          simp only [List.size_toArray, List.length_append, List.length_take, List.length_drop, Array.length_toList, List.length_cons, List.length_nil, Nat.mul_one] at hcs ⊢
          omega
        · rw [hz1, ← htake]
          simp only [Nat.mul_one] at htake ⊢
          have hcl : cur.toList.length = cap := by rw [Array.length_toList, hcs]; simp
          rw [List.append_assoc, List.take_append_of_le_length (by rw [List.length_take, hcl, Nat.min_eq_left hnc]; exact Nat.le_refl _), List.take_take, Nat.min_self]
      · have hcap : Builtin.nextslicecap (L.length + 1) cap * i0.bytes ≤ 281474976710656 := by
          rw [hz2]
          have := nextslicecap_le (need := L.length + 1) (old := cap)
          omega
        have hr2 := run_append_grow (P := Tryd.prog) w 26 ty 38 i0 (.float .f32 0) Tryd.underlying26 hi hz0 ⟨g, 0, none⟩ L.length cap (L.map (Value.float .f32)) (by rw [hz1]; simp) (World.ownsRow.cells hO rfl) ad 1 1 [.float .f32 y] (by rw [hz1]; rfl) hnews (by omega) (by omega) hcap
        have e := hr.symm.trans hr2
        injection e with _ e2
        rw [e2]
        exact OwnF.alloc (OwnF.drew hO) _
  · exact (Below.refl B w).grown hgrow hB (fun j hj => (World.ownsRow.lt hO j hj).1)

theorem wp_pushF {o : Oper} {a : Act} {K : Act → World → Prop} {Q : Exit → Act → World → Prop} (w : World) (s x : Operand)
    (ho : o.op = .call { callee := .builtin .append, args := #[s, x], argTypes := #[26, 26] }) (B : Nat) (v : Value) (L : List Nat) (y : Nat) (ad : Addr)
    (hs : a.eval s = v) (hx : a.eval x = .slice (some ad) 1 1) (hy : w.cell? ad = some (.float .f32 y)) (hO : OwnF B v L w) (hL : L.length ≤ 1048576) (hB : B ≤ w.heap.size)
    (h : ∀ v' w', OwnF B v' (L ++ [y]) w' → OwnF B v L w' → Below B w w' → K (a.put o.dst v') w') : o.wp Tryd.prog a w K Q := by
  obtain ⟨v', w', hr, h1, h2, h3⟩ := run_pushF (ty := o.type) w B v L y ad hy hO hL hB
  unfold Oper.wp execOp
  simp only [ho, resolve, invoke, builtin, Sem.run_bind, Sem.run_pure, Result.andThen_ok, List.map_toArray, List.map_cons, List.map_nil, hs, hx, hr]
  exact h v' w' h1 h2 h3

theorem step_pushF {ops : Array Oper} {o : Oper} {a : Act} {K : Act → World → Prop} {Q : Exit → Act → World → Prop} {E : Prop} (w : World) (hgd : o.guard = none) (s x : Operand)
    (ho : o.op = .call { callee := .builtin .append, args := #[s, x], argTypes := #[26, 26] }) (B : Nat) (v : Value) (L : List Nat) (y : Nat) (ad : Addr)
    (hs : a.eval s = v) (hx : a.eval x = .slice (some ad) 1 1) (hy : w.cell? ad = some (.float .f32 y)) (hO : OwnF B v L w) (hL : L.length ≤ 1048576) (hB : B ≤ w.heap.size)
    (h : ∀ v' w', OwnF B v' (L ++ [y]) w' → OwnF B v L w' → Below B w w' → K (a.put o.dst v') w') : if Region.wanted o (yielded ops a.tmps) = true then Oper.wp Tryd.prog o a w K Q else E := by
  have hw : Region.wanted o (yielded ops a.tmps) = true := by simp [Region.wanted, hgd]
  rw [if_pos hw]
  exact wp_pushF w s x ho B v L y ad hs hx hy hO hL hB h

end Go.Proofs.YtclflnpbiiimiaaDoor

namespace Go.Proofs.YtclflnpbiiimiaaDoor
open Go Go.RowKit

theorem all_no {L : List Nat} {f : Nat → Bool} (i : Nat) (hi : i < L.length) (h : f (L.getD i 0) = false) : L.all f = false := by
  rw [List.getD_eq_getElem?_getD, List.getElem?_eq_getElem hi] at h
  rw [List.all_eq_false]
  exact ⟨L[i], List.getElem_mem hi, by simpa using h⟩
theorem all_yes {L : List Nat} {f : Nat → Bool} (h : ∀ i, i < L.length → f (L.getD i 0) = true) : L.all f = true := by
  rw [List.all_eq_true]
  intro x hx
  obtain ⟨i, hi, rfl⟩ := List.getElem_of_mem hx
  have := h i hi
  rwa [List.getD_eq_getElem?_getD, List.getElem?_eq_getElem hi] at this
theorem all_at {L : List Nat} {f : Nat → Bool} (h : L.all f = true) (i : Nat) (hi : i < L.length) : f (L.getD i 0) = true := by
  rw [List.getD_eq_getElem?_getD, List.getElem?_eq_getElem hi]
  exact (List.all_eq_true.1 h) _ (List.getElem_mem hi)

/-- the sum from the left -/
def sumF (L : List Nat) : Nat := L.foldl addS 0
theorem sumF_succ (L : List Nat) (k : Nat) (hk : k < L.length) : sumF (L.take (k + 1)) = addS (sumF (L.take k)) (L.getD k 0) := by
  unfold sumF
  rw [take_succ_getDF L k hk, List.foldl_append]
  rfl
theorem sumF_all (L : List Nat) (k : Nat) (h : L.length ≤ k) : sumF (L.take k) = sumF L := by rw [List.take_of_length_le h]
/-- numbers of at least 0 -/
def posF (x : Nat) : Bool := fin x && !ltz x
theorem posF_yes {x : Nat} (h : posF x = true) : fin x = true ∧ ltz x = false := by
  unfold posF at h; simpa using h
theorem sumF_any (L : List Nat) (h : L.all posF = true) (k : Nat) : Sm (sumF (L.take k)) ∧ ∀ x ∈ L.take k, magF x ≤ sumF (L.take k) := by
  obtain ⟨h1, _, h3⟩ := fold_any (L.take k) 0 sm_zero (fun x hx => posF_yes ((List.all_eq_true.1 h) x (List.mem_of_mem_take hx)))
  exact ⟨h1, h3⟩

def divS (x y : Nat) : Nat := (Ieee.single.div x y).getD 0

/-- the code of weights that are none -/
def wtCode (L : List Nat) : Int := if L.all fin = false then 1 else if 1 ≤ L.length ∧ L.length ≤ 16 ∧ L.all posF = true then 0 else 2
def nwCode (L : List Nat) : Int := if wtCode L = 0 then (if fin (sumF L) = false then 3 else if eqz (sumF L) = true then 5 else 0) else wtCode L
def nwList (L : List Nat) : List Nat := if nwCode L = 0 then L.map (fun x => divS x (sumF L)) else []

theorem wt_zero {L : List Nat} (h : wtCode L = 0) : L.all fin = true ∧ 1 ≤ L.length ∧ L.length ≤ 16 ∧ L.all posF = true := by
  unfold wtCode at h
  cases hf : L.all fin
  · rw [if_pos hf] at h; cases h
  · rw [if_neg (by rw [hf]; decide)] at h
    by_cases h2 : 1 ≤ L.length ∧ L.length ≤ 16 ∧ L.all posF = true
    · exact ⟨rfl, h2⟩
    · rw [if_neg h2] at h; cases h
theorem nw_other (L : List Nat) (c : Int) (h : wtCode L = c) (hc : c ≠ 0) : nwCode L = c ∧ nwList L = [] := by
  have e : nwCode L = c := by unfold nwCode; rw [if_neg (by omega)]; exact h
  exact ⟨e, by unfold nwList; rw [if_neg (by omega)]⟩
theorem nw_nan (L : List Nat) (h : L.all fin = false) : nwCode L = 1 ∧ nwList L = [] :=
  nw_other L 1 (by unfold wtCode; rw [if_pos h]) (by decide)
theorem nw_len (L : List Nat) (h : L.all fin = true) (h2 : ¬ (1 ≤ L.length ∧ L.length ≤ 16)) : nwCode L = 2 ∧ nwList L = [] :=
  nw_other L 2 (by unfold wtCode; rw [if_neg (by rw [h]; decide), if_neg (fun h3 => h2 ⟨h3.1, h3.2.1⟩)]) (by decide)
theorem nw_neg (L : List Nat) (h : L.all fin = true) (h2 : L.all posF = false) : nwCode L = 2 ∧ nwList L = [] :=
  nw_other L 2 (by unfold wtCode; rw [if_neg (by rw [h]; decide), if_neg (fun h3 => by rw [h3.2.2] at h2; cases h2)]) (by decide)
theorem wt_yes (L : List Nat) (h : L.all fin = true) (h1 : 1 ≤ L.length) (h2 : L.length ≤ 16) (h3 : L.all posF = true) : wtCode L = 0 := by
  unfold wtCode; rw [if_neg (by rw [h]; decide), if_pos ⟨h1, h2, h3⟩]
theorem nw_lim (L : List Nat) (h : wtCode L = 0) (h2 : fin (sumF L) = false) : nwCode L = 3 ∧ nwList L = [] := by
  have e : nwCode L = 3 := by unfold nwCode; rw [if_pos h, if_pos h2]
  exact ⟨e, by unfold nwList; rw [if_neg (by omega)]⟩
theorem nw_state (L : List Nat) (h : wtCode L = 0) (h2 : fin (sumF L) = true) (h3 : eqz (sumF L) = true) : nwCode L = 5 ∧ nwList L = [] := by
  have e : nwCode L = 5 := by unfold nwCode; rw [if_pos h, if_neg (by rw [h2]; decide), if_pos h3]
  exact ⟨e, by unfold nwList; rw [if_neg (by omega)]⟩
theorem nw_yes (L : List Nat) (h : wtCode L = 0) (h2 : fin (sumF L) = true) (h3 : eqz (sumF L) = false) : nwCode L = 0 ∧ nwList L = L.map (fun x => divS x (sumF L)) := by
  have e : nwCode L = 0 := by unfold nwCode; rw [if_pos h, if_neg (by rw [h2]; decide), if_neg (by rw [h3]; decide)]
  exact ⟨e, by unfold nwList; rw [if_pos e]⟩
/-- the quotient by the sum -/
theorem nw_div (L : List Nat) (h : wtCode L = 0) (h2 : fin (sumF L) = true) (h3 : eqz (sumF L) = false) (i : Nat) (hi : i < L.length) : Ieee.single.div (L.getD i 0) (sumF L) = some (divS (L.getD i 0) (sumF L)) ∧ fin (divS (L.getD i 0) (sumF L)) = true := by
  obtain ⟨_, _, _, hp⟩ := wt_zero h
  have hs := sumF_any L hp L.length
  rw [List.take_length] at hs
  have hm : L.getD i 0 ∈ L := by
    rw [List.getD_eq_getElem?_getD, List.getElem?_eq_getElem hi]
    exact List.getElem_mem hi
  obtain ⟨r, h4, h5⟩ := div_fin (L.getD i 0) (sumF L) (posF_yes (all_at hp i hi)).1 (sm_fin _ hs.1 h2) h3 (hs.2 _ hm)
  have e : divS (L.getD i 0) (sumF L) = r := by unfold divS; rw [h4]; rfl
  rw [e]
  exact ⟨h4, h5⟩
theorem map_len (L : List Nat) (f : Nat → Nat) : (L.map f).length = L.length := List.length_map _
theorem nw_take (L : List Nat) (f : Nat → Nat) (k : Nat) (hk : k < L.length) : (L.take (k + 1)).map f = (L.take k).map f ++ [f (L.getD k 0)] := by
  rw [take_succ_getDF L k hk, List.map_append]; rfl
end Go.Proofs.YtclflnpbiiimiaaDoor

namespace Go.Proofs.YtclflnpbiiimiaaDoor
open Go Go.RowKit Ieee

def plusOne : Nat := 1065353216
def minusOne : Nat := 3212836864
/-- 1, or -1 where the count of digits is odd -/
def sg (b : Bool) : Nat := if b then minusOne else plusOne
theorem sg_neg (b : Bool) : Op.negFloat .f32 (sg b) = sg (!b) := by cases b <;> rfl
theorem sg_fin (b : Bool) : fin (sg b) = true := by cases b <;> decide

/-- is the count of the digits that are 1 odd -/
def par (n : Nat) : Bool := if h : n = 0 then false else xor (n % 2 == 1) (par (n / 2))
termination_by n
decreasing_by omega
theorem par_zero : par 0 = false := by unfold par; rfl
theorem par_pos (n : Nat) (h : 0 < n) : par n = xor (n % 2 == 1) (par (n / 2)) := by
  rw [par, dif_neg (by omega)]
theorem par_odd (n : Nat) (h : n % 2 = 1) : par n = !par (n / 2) := by
  rw [par_pos n (by omega), h]
  cases par (n / 2) <;> rfl
theorem par_even (n : Nat) (h : n % 2 = 0) : par n = par (n / 2) := by
  rcases Nat.eq_zero_or_pos n with rfl | h0
  · rfl
  · rw [par_pos n h0, h]
    cases par (n / 2) <;> rfl

/-- the number j of the code of Walsh k -/
def wal (k j : Nat) : Nat := sg (par (k &&& j))
def walsh (n k : Nat) : List Nat := (List.range n).map (wal k)
theorem walsh_len (n k : Nat) : (walsh n k).length = n := by simp [walsh]
theorem walsh_succ (n k : Nat) : walsh (n + 1) k = walsh n k ++ [wal k n] := by simp [walsh, List.range_succ]
theorem and_fin : ∀ k j : Fin 64, bits .and .i64 (k.val : Int) (j.val : Int) = ((k.val &&& j.val : Nat) : Int) ∧ k.val &&& j.val < 64 := by decide +kernel
theorem and_any (k j : Nat) (hk : k < 64) (hj : j < 64) : bits .and .i64 (k : Int) (j : Int) = ((k &&& j : Nat) : Int) ∧ k &&& j < 64 := and_fin ⟨k, hk⟩ ⟨j, hj⟩

/-- a length of a code of Walsh -/
def lenI (n : Int) : Bool := n == 1 || n == 2 || n == 4 || n == 8 || n == 16 || n == 32 || n == 64
theorem lenI_yes {n : Int} (h : lenI n = true) : n = 1 ∨ n = 2 ∨ n = 4 ∨ n = 8 ∨ n = 16 ∨ n = 32 ∨ n = 64 := by
  unfold lenI at h
  simp only [Bool.or_eq_true, beq_iff_eq] at h
  omega
/-- the powers of two -/
def pw2 (r : Nat) : Int := ((2 ^ r : Nat) : Int)
theorem pw2_fin : ∀ r : Fin 7, pw2 r.val ≤ 64 ∧ IntKind.i64.wrap (2 * pw2 r.val) = pw2 (r.val + 1) ∧ lenI (pw2 r.val) = true := by decide +kernel
theorem lenI_none {n : Int} (h : ∀ s, s < 7 → n ≠ pw2 s) : lenI n = false := by
  cases hl : lenI n
  · rfl
  · rcases lenI_yes hl with e | e | e | e | e | e | e
    · exact absurd e (h 0 (by omega))
    · exact absurd e (h 1 (by omega))
    · exact absurd e (h 2 (by omega))
    · exact absurd e (h 3 (by omega))
    · exact absurd e (h 4 (by omega))
    · exact absurd e (h 5 (by omega))
    · exact absurd e (h 6 (by omega))
def wcOk (n k : Int) : Bool := lenI n && decide (0 ≤ k) && decide (k ≤ n - 1)
def wcList (n k : Int) : List Nat := if wcOk n k = true then walsh n.toNat k.toNat else []
def wcCode (n k : Int) : Int := if wcOk n k = true then 0 else 2

/-- the number j of the code of Legendre of p, with the remainders of the squares up to q alone -/
def legTo (p j q : Nat) : Nat := if (List.range q).any (fun k => k * k % p == j) then plusOne else minusOne
theorem legTo_zero (p j : Nat) : legTo p j 0 = minusOne := rfl
theorem legTo_yes (p j q : Nat) (h : q * q % p = j) : legTo p j (q + 1) = plusOne := by
  unfold legTo
  rw [List.range_succ, List.any_append]
  simp [h]
theorem legTo_no (p j q : Nat) (h : q * q % p ≠ j) : legTo p j (q + 1) = legTo p j q := by
  unfold legTo
  rw [List.range_succ, List.any_append]
  simp [h]
theorem legTo_two (p j q : Nat) : legTo p j q = plusOne ∨ legTo p j q = minusOne := by
  unfold legTo
  split
  · exact .inl rfl
  · exact .inr rfl
def leg (p j : Nat) : Nat := legTo p j p
def legs (p : Nat) : List Nat := (List.range p).map (leg p)
theorem legs_len (p : Nat) : (legs p).length = p := by simp [legs]
theorem legs_get (p j : Nat) (h : j < p) : (legs p).getD j 0 = leg p j := by simp [legs, List.getD_eq_getElem?_getD, h]
def legsTo (p n : Nat) : List Nat := (List.range n).map (leg p)
theorem legsTo_succ (p n : Nat) : legsTo p (n + 1) = legsTo p n ++ [leg p n] := by simp [legsTo, List.range_succ]
theorem legsTo_len (p n : Nat) : (legsTo p n).length = n := by simp [legsTo]
def prI (p : Int) : Bool := p == 3 || p == 7 || p == 11 || p == 19 || p == 23 || p == 31
theorem prI_yes {n : Int} (h : prI n = true) : n = 3 ∨ n = 7 ∨ n = 11 ∨ n = 19 ∨ n = 23 ∨ n = 31 := by
  unfold prI at h
  simp only [Bool.or_eq_true, beq_iff_eq] at h
  omega
def lcList (p : Int) : List Nat := if prI p = true then legs p.toNat else []
def lcCode (p : Int) : Int := if prI p = true then 0 else 2

/-- what is asked of program and model: a list and a code out of a number, or two -/
def List2F (f : FuncId) (n k : Int) (R : List Nat) (c : Int) : Prop :=
  ∀ w, Calls Tryd.prog f #[.int .i64 n, .int .i64 k] w fun e w' => ∃ r, e = .returned (.tuple #[r, .int .i64 c]) ∧ OwnF w.heap.size r R w' ∧ Below w.heap.size w w'
def List1F (f : FuncId) (n : Int) (R : List Nat) (c : Int) : Prop :=
  ∀ w, Calls Tryd.prog f #[.int .i64 n] w fun e w' => ∃ r, e = .returned (.tuple #[r, .int .i64 c]) ∧ OwnF w.heap.size r R w' ∧ Below w.heap.size w w'

end Go.Proofs.YtclflnpbiiimiaaDoor
