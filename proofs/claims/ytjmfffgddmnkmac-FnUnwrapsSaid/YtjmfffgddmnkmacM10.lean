/- A list of whole numbers of the call's own: it begins empty, and a number is appended to it. Condition: not too many numbers. A number is appended to a list of the call's own, in a statement that draws its order, too: the new list, and the old one as it was. Condition: not too many numbers. Residues as a list of whole numbers, and the program's way along a path. Condition: wrapped heights. -/
import Derived.Test.YtjmfffgddmnkmacM9
import Derived.Maps.AppendAt
import Derived.RegionTactic
import Derived.Test.YtjmfffgddmnkmacUw
import Derived.Deep.RegionHeld3
import Derived.Deep.DrawnRows
namespace Go.Proofs.Ytjmfffgddmnkmac
open Go Go.RowKit

theorem Own.empty (B : Nat) (w : World) (hB : B ≤ w.heap.size) : Own B (.slice (some ⟨w.heap.size, 0, none⟩) 0 0) [] (w.alloc (.cells #[] 2)) :=
  ⟨rfl, .inr ⟨w.heap.size, 0, #[], rfl, hB, heap_alloc_new w _, by simp, by simp, rfl, rfl⟩⟩

theorem wpList_push {ops : Array Oper} {rest : List Oper} {o : Oper} {a : Act} {Q : Exit → Act → World → Prop} {w : World} (hgd : o.guard = none) (s x : Operand)
    (ho : o.op = .call { callee := .builtin .append, args := #[s, x], argTypes := #[24, 24] }) (B : Nat) (v : Value) (L : List Int) (y : Int)
    (hs : a.eval s = v) (hx : a.eval x = .slice (some ⟨w.heap.size, 0, none⟩) 1 1) (hO : Own B v L w) (hL : L.length ≤ 1048576) (hB : B ≤ w.heap.size)
    (h : ∀ v' w', Own B v' (L ++ [y]) w' → Below B w w' → wpList Try.prog ops Q rest (a.put o.dst v') w') : wpList Try.prog ops Q (o :: rest) a (w.alloc (.cells #[.int .i64 y] 2)) := by
  obtain ⟨i0, hi, hz0, hz1, hz2⟩ := info_parts info64
  refine wpList_append_own _ hgd s x 24 ho B 2 i0 (.int .i64 0) 1 8 Try.underlying24 hi hz0 hz1 hz2 rfl (by decide) v L.length (L.map (Value.int .i64)) hs (hO.alloc _) ⟨w.heap.size, 0, none⟩ 1 1 [.int .i64 y] hx rfl ?_ ?_ ?_ ?_ ?_ ?_
  · intro j u hj
    match j, hj with
    | 0, hj =>
      simp at hj; subst hj
      simp [Addr.add, World.cell?_alloc_at]
  · intro u hu; simp at hu; subst hu; rfl
  · unfold maxLen; omega
  · omega
  · rw [World.size_alloc]; omega
  · intro v' w' hown hgrow _
    refine h v' w' ?_ ?_
    · unfold Own
      rw [List.length_append, List.map_append]
      exact hown
    · refine ((Below.refl B w).alloc hB _).grown hgrow (by rw [World.size_alloc]; omega) (fun j hj => ?_)
      exact (World.ownsRow.lt hO j hj).1

/-- the shape of lists that grow -/
theorem Own.one {B : Nat} {v : Value} {L M : List Int} {w : World} (h : Own B v L w) (e : L = M) : Own B v M w := by rw [← e]; exact h

end Go.Proofs.Ytjmfffgddmnkmac

namespace Go.Proofs.Ytjmfffgddmnkmac
open Go Go.RowKit

theorem run_push {ty : TypeId} (w : World) (B : Nat) (v : Value) (L : List Int) (y : Int) (ad : Addr) (hy : w.cell? ad = some (.int .i64 y)) (hO : Own B v L w) (hL : L.length ≤ 1048576) (hB : B ≤ w.heap.size) :
    ∃ v' w', (Builtin.append_ #[24, 24] ty #[v, .slice (some ad) 1 1]).run Try.prog w = .ok v' w' ∧ Own B v' (L ++ [y]) w' ∧ Own B v L w' ∧ Below B w w' := by
  obtain ⟨i0, hi, hz0, hz1, hz2⟩ := info_parts info64
  have hnews : ∀ j u, [Value.int .i64 y][j]? = some u → w.cell? (ad.add j) = some u := by
    intro j u hj
    match j, hj with
    | 0, hj =>
      simp at hj; subst hj
      rw [show ad.add 0 = ad by unfold Addr.add; split <;> simp_all]
      exact hy
  have h1 : ∀ u ∈ [Value.int .i64 y], u.oneCell' = true := by intro u hu; simp at hu; subst hu; rfl
  obtain ⟨v', w', hr, hown, hgrow, _, _⟩ := run_append_own_at (P := Try.prog) w B 24 ty 2 i0 (.int .i64 0) 1 8 Try.underlying24 hi hz0 hz1 hz2 rfl (by decide) v L.length (L.map (Value.int .i64)) hO ad 1 1 [.int .i64 y] rfl hnews h1 (by unfold maxLen; omega) (by omega) hB
  refine ⟨v', w', hr, ?_, ?_, ?_⟩
  · unfold Own
    rw [List.length_append, List.map_append]
    exact hown
  · rcases hO.2 with ⟨rfl, h0⟩ | ⟨g, cap, cur, rfl, hbg, hg, hnc, hcm, hcs, htake⟩
    · have : L = [] := List.length_eq_zero_iff.1 h0
      subst this
      exact Own.zero _ _
    · by_cases hroom : L.length + 1 ≤ cap
      · have hr2 := run_append_room (P := Try.prog) w 24 ty 2 i0 Try.underlying24 hi g L.length cap cur hg ad 1 1 [.int .i64 y] (by rw [hz1]; rfl) hnews h1 hroom (by rw [hz1, hcs]; simp; omega)
        have e := hr.symm.trans hr2
        injection e with _ e2
        rw [e2]
        refine ⟨hO.1, .inr ⟨g, cap, _, rfl, hbg, setRow_heap w g cur _ 2 _ hg, hnc, hcm, ?_, ?_⟩⟩
        · rw [hz1]
          simp only [List.size_toArray, List.length_append, List.length_take, List.length_drop, Array.length_toList, List.length_cons, List.length_nil, Nat.mul_one] at hcs ⊢
          omega
        · rw [hz1, ← htake]
          simp only [Nat.mul_one] at htake ⊢
          have hcl : cur.toList.length = cap := by rw [Array.length_toList, hcs]; simp
          rw [List.append_assoc, List.take_append_of_le_length (by rw [List.length_take, hcl, Nat.min_eq_left hnc]; exact Nat.le_refl _), List.take_take, Nat.min_self]
      · have hcap : Builtin.nextslicecap (L.length + 1) cap * i0.bytes ≤ 281474976710656 := by
          rw [hz2]
          have := nextslicecap_le (need := L.length + 1) (old := cap)
          omega
        have hr2 := run_append_grow (P := Try.prog) w 24 ty 2 i0 (.int .i64 0) Try.underlying24 hi hz0 ⟨g, 0, none⟩ L.length cap (L.map (Value.int .i64)) (by rw [hz1]; simp) (World.ownsRow.cells hO rfl) ad 1 1 [.int .i64 y] (by rw [hz1]; rfl) hnews (by omega) (by omega) hcap
        have e := hr.symm.trans hr2
        injection e with _ e2
        rw [e2]
        exact Own.alloc (Own.drew hO) _
  · exact (Below.refl B w).grown hgrow hB (fun j hj => (World.ownsRow.lt hO j hj).1)

theorem wp_push {o : Oper} {a : Act} {K : Act → World → Prop} {Q : Exit → Act → World → Prop} (w : World) (s x : Operand)
    (ho : o.op = .call { callee := .builtin .append, args := #[s, x], argTypes := #[24, 24] }) (B : Nat) (v : Value) (L : List Int) (y : Int) (ad : Addr)
    (hs : a.eval s = v) (hx : a.eval x = .slice (some ad) 1 1) (hy : w.cell? ad = some (.int .i64 y)) (hO : Own B v L w) (hL : L.length ≤ 1048576) (hB : B ≤ w.heap.size)
    (h : ∀ v' w', Own B v' (L ++ [y]) w' → Own B v L w' → Below B w w' → K (a.put o.dst v') w') : o.wp Try.prog a w K Q := by
  obtain ⟨v', w', hr, h1, h2, h3⟩ := run_push (ty := o.type) w B v L y ad hy hO hL hB
  unfold Oper.wp execOp
  simp only [ho, resolve, invoke, builtin, Sem.run_bind, Sem.run_pure, Result.andThen_ok, List.map_toArray, List.map_cons, List.map_nil, hs, hx, hr]
  exact h v' w' h1 h2 h3

theorem step_push {ops : Array Oper} {o : Oper} {a : Act} {K : Act → World → Prop} {Q : Exit → Act → World → Prop} {E : Prop} (w : World) (hgd : o.guard = none) (s x : Operand)
    (ho : o.op = .call { callee := .builtin .append, args := #[s, x], argTypes := #[24, 24] }) (B : Nat) (v : Value) (L : List Int) (y : Int) (ad : Addr)
    (hs : a.eval s = v) (hx : a.eval x = .slice (some ad) 1 1) (hy : w.cell? ad = some (.int .i64 y)) (hO : Own B v L w) (hL : L.length ≤ 1048576) (hB : B ≤ w.heap.size)
    (h : ∀ v' w', Own B v' (L ++ [y]) w' → Own B v L w' → Below B w w' → K (a.put o.dst v') w') : if Region.wanted o (yielded ops a.tmps) = true then Oper.wp Try.prog o a w K Q else E := by
  have hw : Region.wanted o (yielded ops a.tmps) = true := by simp [Region.wanted, hgd]
  rw [if_pos hw]
  exact wp_push w s x ho B v L y ad hs hx hy hO hL hB h

end Go.Proofs.Ytjmfffgddmnkmac

namespace Go.Proofs.Ytjmfffgddmnkmac
open Go Go.RowKit

/-- the residue of four heights around -/
def res4 (a b c d : Int) : Int := (lessH a b + lessH b c + lessH c d + lessH d a).tdiv 64
/-- the residue of the rows y, y + 1 and the columns x, x + 1 -/
def resCell (m : Nat) (L : List Int) (y x : Nat) : Int :=
  res4 (L.getD (m * y + x) 0) (L.getD (m * y + x + 1) 0) (L.getD (m * y + m + x + 1) 0) (L.getD (m * y + m + x) 0)
/-- the first k residues, M in a row -/
def resPre (m M : Nat) (L : List Int) (k : Nat) : List Int := (List.range k).map (fun i => resCell m L (i / M) (i % M))
theorem resPre_len (m M : Nat) (L : List Int) (k : Nat) : (resPre m M L k).length = k := by simp [resPre]
theorem resPre_succ (m M : Nat) (L : List Int) (y x : Nat) (hx : x < M) : resPre m M L (M * y + x) ++ [resCell m L y x] = resPre m M L (M * y + (x + 1)) := by
  have h1 : (M * y + x) / M = y := by rw [Nat.mul_add_div (by omega), Nat.div_eq_of_lt hx]; omega
  have h2 : (M * y + x) % M = x := by rw [Nat.mul_add_mod, Nat.mod_eq_of_lt hx]
  rw [← Nat.add_assoc]
  unfold resPre
  rw [List.range_succ, List.map_append, List.map_cons, List.map_nil, h1, h2]

/-- the answer that is asked for -/
def resRs (n : Int) (L : List Int) : List Int := if codeW n L = 0 then resPre n.toNat (n.toNat - 1) L ((n.toNat - 1) * (n.toNat - 1)) else []
theorem resRs_len (n : Int) (L : List Int) : (resRs n L).length ≤ 1048576 := by
  unfold resRs
  split
  · rename_i h
    rw [resPre_len]
    obtain ⟨m, rfl, _, h1, _⟩ := isMap_nat (codeW_zero h).1
    rw [show (m : Int).toNat = m from by simp]
    exact Nat.le_trans (Nat.mul_le_mul (show m - 1 ≤ 8 by omega) (show m - 1 ≤ 8 by omega)) (by decide)
  · exact Nat.zero_le _

set_option maxRecDepth 100000 in
set_option maxHeartbeats 400000 in
theorem rowOf_ints (b o n y N cap : Nat) (hn : 1 ≤ n ∧ n ≤ 8) (hy : y < n) (hN : n * n = N) (hcap : N ≤ cap) (w : World) : Calls Try.prog 35 #[.slice (some ⟨b, o, none⟩) N cap, .int .i64 n, .int .i64 y] w fun e w' => e = .returned (.slice (some ⟨b, o + n * y, none⟩) n n) ∧ w = w' := by
  obtain ⟨p, hp⟩ : ∃ p, n * y = p := ⟨_, rfl⟩
  have hq : n * (y + 1) = p + n := by rw [Nat.mul_succ, hp]
  have hNN : p + n ≤ N := by
    rw [← hq, ← hN]
    exact Nat.mul_le_mul_left _ hy
  have h64 : N ≤ 64 := by rw [← hN]; exact Nat.le_trans (Nat.mul_le_mul hn.2 hn.2) (by decide)
  have hw1 : IntKind.i64.wrap ((n : Int) * (y : Int)) = (p : Int) := by rw [← Int.natCast_mul, hp]; exact IntWalk.i64_in _ (by omega)
  have hw2 : IntKind.i64.wrap ((n : Int) * ((y : Int) + 1)) = ((p + n : Nat) : Int) := by
    rw [show (n : Int) * ((y : Int) + 1) = ((n * (y + 1) : Nat) : Int) by rw [Int.natCast_mul]; rfl, hq]; exact IntWalk.i64_in _ (by omega)
  have hw3 : IntKind.i64.wrap ((y : Int) + 1) = (y : Int) + 1 := IntWalk.i64_in _ (by omega)
  obtain ⟨q, hqq⟩ : ∃ q, p + n = q := ⟨_, rfl⟩
  rw [hqq] at hw2
  have hsub : q - p = n := by omega
  have hne : ¬ q = p := by omega
  have hpq : (p : Int) ≤ (q : Int) := by omega
  have hqN : (q : Int) ≤ (N : Int) := by omega
  have hqc : (q : Int) ≤ (cap : Int) := by omega
  have hp0 : (0 : Int) ≤ (p : Int) := by omega
  clear hq hn hy hqq hN
  rw [hp]
  clear hp
  go_enter Try.func35, Try.ntmps35
  go_wp2
  go_ret
  exact ⟨by first | rfl | (simp; omega) | (rw [hsub]), rfl⟩

/-- the wrapped differences along the first k + 1 numbers -/
def along (f : Nat → Int) : Nat → Int
  | 0 => 0
  | k + 1 => along f k + lessH (f k) (f (k + 1))
theorem along_bound (f : Nat → Int) : ∀ k : Nat, -(32 * (k : Int)) ≤ along f k ∧ along f k ≤ 32 * (k : Int)
  | 0 => by simp [along]
  | k + 1 => by
    have h1 := along_bound f k
    have h2 := lessH_range (f k) (f (k + 1))
    rw [along]
    push_cast
    omega

set_option maxRecDepth 100000 in
set_option maxHeartbeats 800000 in
theorem residueAlong_any (P : Nat) (f : Nat → Int) (w : World) (hc : ∀ i, i < 5 → w.cell? ⟨P, i, none⟩ = some (.int .i64 (f i))) (hf : ∀ i, i < 5 → 0 ≤ f i ∧ f i ≤ 63) :
    Calls Try.prog 36 #[.slice (some ⟨P, 0, none⟩) 5 5] w fun e w' => e = .returned (.int .i64 ((along f 4).tdiv 64)) ∧ w = w' := by
  have HC := Lib.hid hc
  have HF := Lib.hid hf
  have HB := Lib.hid (along_bound f)
  clear hc hf
  go_enter Try.func36, Try.ntmps36
  go_wp2
  go_loopw [3, 9] (fun s i wr => ∃ k : Nat, k ≤ 4 ∧ i = .int .i64 k ∧ s = .int .i64 (along f k) ∧ wr = w) (fun _ i _ => 4 - (intOf i).toNat)
  case atStart => exact ⟨0, by omega, rfl, rfl, rfl⟩
  case round =>
    obtain ⟨k, hk, rfl, rfl, rfl⟩ := hrel
    by_cases hlt : k < 4
    · have hdk : decide ((k : Int) < 4) = true := by simp; omega
      have c1 := HC.out k (by omega)
      have c2 := HC.out (k + 1) (by omega)
      rw [Nat.add_comm] at c2
      have h1 := HF.out k (by omega)
      have h2 := HF.out (k + 1) (by omega)
      have hb := HB.out k
      have HL := Lib.hid (fun w => wrappedDiff_any (f k) (f (k + 1)) (by omega) (by omega) w)
      have hl := lessH_range (f k) (f (k + 1))
      have HS : Hid (along f (k + 1) = along f k + lessH (f k) (f (k + 1))) := Lib.hid rfl
      generalize along f k = s at *
      generalize lessH (f k) (f (k + 1)) = d at *
      rw [Nat.add_comm 1 k] at c2
      generalize f k = x at *
      generalize f (k + 1) = y at *
      have c3 : wr.cell? ⟨P, 1 + k, none⟩ = some (.int .i64 y) := by rw [Nat.add_comm]; exact c2
      go_wp2_with fail
      refine (HL.out _).mono ?_
      rintro e w1 ⟨rfl, rfl⟩
      go_wp2
      exact ⟨⟨k + 1, by omega, by go_num, by rw [HS.out], by trivial⟩, by simp [intOf]; omega⟩
    · obtain rfl : k = 4 := by omega
      have hb := HB.out 4
      generalize hs : along f 4 = s at *
      have HSS := Lib.hid hs
      clear hs
      go_wp2
      go_ret
      exact ⟨by rw [HSS.out]; rfl, by trivial⟩

/-- a path of five numbers -/
def five (a b c d : Int) : Nat → Int | 0 => a | 1 => b | 2 => c | 3 => d | _ => a
theorem along_five (a b c d : Int) : (along (five a b c d) 4).tdiv 64 = res4 a b c d := by
  simp [along, five, res4]

theorem residueAlong_four (P : Nat) (a b c d : Int) (w : World) (ha : 0 ≤ a ∧ a ≤ 63) (hb : 0 ≤ b ∧ b ≤ 63) (hc : 0 ≤ c ∧ c ≤ 63) (hd : 0 ≤ d ∧ d ≤ 63)
    (h : w.heap[P]? = some (.cells #[.int .i64 a, .int .i64 b, .int .i64 c, .int .i64 d, .int .i64 a] 2)) :
    Calls Try.prog 36 #[.slice (some ⟨P, 0, none⟩) 5 5] w fun e w' => e = .returned (.int .i64 (res4 a b c d)) ∧ w = w' := by
  rw [← along_five]
  refine residueAlong_any P (five a b c d) w (fun i hi => ?_) (fun i hi => ?_)
  · rw [cell_of_row _ _ _ _ _ _ h]
    match i, hi with
    | 0, _ => rfl
    | 1, _ => rfl
    | 2, _ => rfl
    | 3, _ => rfl
    | 4, _ => rfl
  · match i, hi with
    | 0, _ => exact ha
    | 1, _ => exact hb
    | 2, _ => exact hc
    | 3, _ => exact hd
    | 4, _ => exact ha

end Go.Proofs.Ytjmfffgddmnkmac
