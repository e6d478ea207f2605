/- A queue of whole numbers: a slice that may begin within its block; a number is appended to it, its first one is taken off. Condition: not too many numbers. What is a complex number, and what lies within 64, in the program's ways to ask. Condition: none. Whether a complex number is one, in both ways to ask. Condition: none. The table of the 64 phases in float32's bits, and what the model's halves of phases hand back. Conditions: none. The model's phase, called with any integer, hands back the table's entry at its remainder by 64. Condition: none. -/
import Derived.Test.YtjmfffgddmnkmacFda
import Derived.Test.YtjmfffgddmnkmacM10
import Derived.ArgAppend
import Derived.Test.YtjmfffgddmnkmacM4
import Derived.Test.YtjmfffgddmnkmacChecked
import Derived.Test.YtjmfffgddmnkmacM3
namespace Go.Proofs.Ytjmfffgddmnkmac
open Go Go.RowKit

/-- the slice v lies somewhere in a block from B on and holds the whole numbers L -/
def Qu (B : Nat) (v : Value) (L : List Int) (w : World) : Prop :=
  ∃ g off cap cur, v = .slice (some ⟨g, off, none⟩) L.length cap ∧ B ≤ g ∧ w.heap[g]? = some (.cells cur 2 (0, 0)) ∧ L.length ≤ cap ∧ cap ≤ maxLen ∧ off + cap ≤ cur.size ∧ ∀ i, i < L.length → cur[off + i]? = some (.int .i64 (L.getD i 0))

theorem Qu.keep {B : Nat} {v : Value} {L : List Int} {w u : World} (h : Qu B v L w) (hk : ∀ k, v.ownBlock = some k → k < w.heap.size → u.heap[k]? = w.heap[k]?) : Qu B v L u := by
  obtain ⟨g, off, cap, cur, rfl, hb, hg, r⟩ := h
  have hlt : g < w.heap.size := (Array.getElem?_eq_some_iff.1 hg).1
  exact ⟨g, off, cap, cur, rfl, hb, by rw [hk g rfl hlt]; exact hg, r⟩
theorem Qu.alloc {B : Nat} {v : Value} {L : List Int} {w : World} (h : Qu B v L w) (o : Obj) : Qu B v L (w.alloc o) := h.keep fun _ _ hk => Below.heap_alloc w o _ hk
theorem Qu.drew {B : Nat} {v : Value} {L : List Int} {w : World} (h : Qu B v L w) : Qu B v L w.drew := h
theorem Qu.below {B C : Nat} {v : Value} {L : List Int} {w u : World} (h : Qu B v L w) (k : Below C w u) (hC : w.heap.size ≤ C) : Qu B v L u := h.keep fun i _ hi => k.block i (by omega)
theorem Qu.setCell {B p j : Nat} {v x : Value} {L : List Int} {w : World} (h : Qu B v L w) (hp : v.ownBlock ≠ some p) : Qu B v L (w.setCell ⟨p, j, none⟩ x) :=
  h.keep fun i hi _ => Below.heap_setCell _ _ _ _ (fun e => hp (by rw [hi, e]))
theorem Qu.grown {B : Nat} {v : Value} {L : List Int} {w u : World} {row : Option Nat} (h : Qu B v L w) (g : w.grownBy u row) (hp : v.ownBlock ≠ row) : Qu B v L u :=
  h.keep fun i hi hlt => g.block i hlt (fun e => hp (by rw [hi, e]))
theorem Qu.lt {B : Nat} {v : Value} {L : List Int} {w : World} (h : Qu B v L w) : ∀ k, v.ownBlock = some k → B ≤ k ∧ k < w.heap.size := by
  obtain ⟨g, off, cap, cur, rfl, hb, hg, r⟩ := h
  intro k hk
  simp only [Value.ownBlock, Option.some.injEq] at hk
  subst hk
  exact ⟨hb, (Array.getElem?_eq_some_iff.1 hg).1⟩
theorem Qu.one {B : Nat} {v : Value} {L M : List Int} {w : World} (h : Qu B v L w) (e : L = M) : Qu B v M w := by rw [← e]; exact h

/-- a row of one number -/
theorem Qu.single (B : Nat) (y : Int) (w : World) (hB : B ≤ w.heap.size) : Qu B (.slice (some ⟨w.heap.size, 0, none⟩) 1 1) [y] (w.alloc (.cells #[.int .i64 y] 2)) :=
  ⟨w.heap.size, 0, 1, _, rfl, hB, heap_alloc_new w _, Nat.le_refl _, by unfold maxLen; omega, Nat.le_refl _, fun i hi => by
    simp only [List.length_singleton] at hi
    obtain rfl : i = 0 := by omega
    rfl⟩

/-- its first number, and the rest of it -/
theorem Qu.head {B g off n cap : Nat} {L : List Int} {w : World} (h : Qu B (.slice (some ⟨g, off, none⟩) n cap) L w) (h0 : 0 < L.length) : w.cell? ⟨g, off, none⟩ = some (.int .i64 (L.getD 0 0)) := by
  obtain ⟨g', off', cap', cur, e, hb, hg, h1, h2, h3, h4⟩ := h
  cases e
  rw [cell_of_row _ _ _ _ _ _ hg]
  exact h4 0 h0
theorem Qu.tail {B g off cap : Nat} {L : List Int} {w : World} (h : Qu B (.slice (some ⟨g, off, none⟩) L.length cap) L w) (h0 : 0 < L.length) :
    Qu B (.slice (some ⟨g, if cap = 1 then off else off + 1, none⟩) (L.length - 1) (cap - 1)) (L.drop 1) w := by
  obtain ⟨g', off', cap', cur, e, hb, hg, h1, h2, h3, h4⟩ := h
  cases e
  have hd : (L.drop 1).length = L.length - 1 := by rw [List.length_drop]
  refine ⟨g, if cap = 1 then off else off + 1, cap - 1, cur, by rw [hd], hb, hg, by rw [hd]; omega, by omega, by split <;> omega, fun i hi => ?_⟩
  rw [hd] at hi
  have hc : cap ≠ 1 := by omega
  rw [if_neg hc, List.getD_eq_getElem?_getD, List.getElem?_drop, ← List.getD_eq_getElem?_getD, Nat.add_assoc]
  exact h4 (1 + i) (by omega)

theorem run_pushQ {ty : TypeId} (w : World) (B : Nat) (v : Value) (L : List Int) (y : Int) (ad : Addr) (hy : w.cell? ad = some (.int .i64 y)) (hQ : Qu B v L w) (hL : L.length ≤ 1048576) (hB : B ≤ w.heap.size) :
    ∃ v' w', (Builtin.append_ #[24, 24] ty #[v, .slice (some ad) 1 1]).run Try.prog w = .ok v' w' ∧ Qu B v' (L ++ [y]) w' ∧ w.grownBy w' v.ownBlock ∧ (∀ k, k < w.heap.size → v.ownBlock ≠ some k → v'.ownBlock ≠ some k) := by
  obtain ⟨i0, hi, hz0, hz1, hz2⟩ := info_parts info64
  have hnews : ∀ j u, [Value.int .i64 y][j]? = some u → w.cell? (ad.add j) = some u := by
    intro j u hj
    match j, hj with
    | 0, hj =>
      simp at hj; subst hj
      rw [show ad.add 0 = ad by unfold Addr.add; split <;> simp_all]
      exact hy
  have h1 : ∀ u ∈ [Value.int .i64 y], u.oneCell' = true := by intro u hu; simp at hu; subst hu; rfl
  have hLl : (L ++ [y]).length = L.length + 1 := by rw [List.length_append]; rfl
  obtain ⟨g, off, cap, cur, rfl, hbg, hg, hnc, hcm, hcs, hcell⟩ := hQ
  by_cases hroom : L.length + 1 ≤ cap
  · have hr := run_append_room_cells (P := Try.prog) w 24 ty 2 i0 Try.underlying24 hi g off L.length cap ad 1 1 [.int .i64 y] (by rw [hz1]; rfl) hnews h1 hroom
      (fun j hj => by
        simp only [List.length_singleton] at hj
        rw [cell_of_row _ _ _ _ _ _ hg, hz1, Array.getElem?_eq_getElem (by omega)]; rfl)
      (fun j hj => frozen_of_row _ _ _ _ _ hg)
    rw [hz1, Nat.mul_one] at hr
    refine ⟨_, _, hr, ⟨g, off, cap, _, by rw [hLl], hbg, heap_setCell_same _ _ _ _ _ _ hg, by rw [hLl]; exact hroom, hcm, by rw [Array.size_setIfInBounds]; exact hcs, fun i hi => ?_⟩, ⟨rfl, rfl, rfl, by show _ ≤ (w.setCell _ _).heap.size; rw [World.size_setCell]; exact Nat.le_refl _, fun k hk hne => ?_⟩, fun k _ h => h⟩
    · rw [hLl] at hi
      rw [getD_append_one]
      by_cases e : i = L.length
      · subst e
        rw [if_neg (by omega), if_pos rfl, Array.getElem?_setIfInBounds_self_of_lt (by omega)]
      · rw [if_pos (by omega), Array.getElem?_setIfInBounds_ne (by omega)]
        exact hcell i (by omega)
    · show (w.setCell _ _).heap[k]? = _
      exact Below.heap_setCell _ _ _ _ (fun e => hne (by rw [e]; rfl))
  · obtain ⟨v', w', hr, hown, hgrow⟩ := run_append_arg_grows (P := Try.prog) w 24 ty 2 i0 (.int .i64 0) 1 8 Try.underlying24 hi hz0 hz1 hz2 rfl (by decide) ⟨g, off, none⟩ L.length cap (L.map (Value.int .i64)) (by simp)
      (fun j u hj => by
        have hjl : j < L.length := by simpa using (List.getElem?_eq_some_iff.1 hj).1
        rw [map_getD L j hjl] at hj
        cases hj
        rw [show (⟨g, off, none⟩ : Addr).add j = ⟨g, off + j, none⟩ by unfold Addr.add; split <;> simp_all, cell_of_row _ _ _ _ _ _ hg]
        exact hcell j hjl)
      ad 1 1 [.int .i64 y] rfl hnews (by omega) (by unfold maxLen; omega) (by omega)
    obtain ⟨_, hf⟩ := hown
    rcases hf with ⟨_, h0⟩ | ⟨g', cap', cur', rfl, hbg', hg', hnc', hcm', hcs', htake⟩
    · omega
    refine ⟨_, _, hr, ⟨g', 0, cap', cur', by rw [hLl], by omega, hg', by rw [hLl]; exact hnc', hcm', by rw [hcs']; omega, fun i hi => ?_⟩, ⟨hgrow.os, hgrow.tape, hgrow.output, hgrow.size, fun k hk _ => hgrow.block k hk (by simp)⟩, fun k hk _ e => ?_⟩
    · rw [Nat.zero_add]
      have e1 : cur'[i]? = (cur'.toList.take ((L.length + 1) * 1))[i]? := by
        rw [List.getElem?_take_of_lt (by omega), Array.getElem?_toList]
      rw [e1, htake, show L.map (Value.int .i64) ++ [Value.int .i64 y] = (L ++ [y]).map (Value.int .i64) by rw [List.map_append]; rfl]
      exact map_getD _ i hi
    · simp only [Value.ownBlock, Option.some.injEq] at e
      omega

theorem wpList_pushQ {ops : Array Oper} {rest : List Oper} {o : Oper} {a : Act} {Q : Exit → Act → World → Prop} (w : World) (hgd : o.guard = none) (s x : Operand)
    (ho : o.op = .call { callee := .builtin .append, args := #[s, x], argTypes := #[24, 24] }) (B : Nat) (v : Value) (L : List Int) (y : Int) (ad : Addr)
    (hs : a.eval s = v) (hx : a.eval x = .slice (some ad) 1 1) (hy : w.cell? ad = some (.int .i64 y)) (hO : Qu B v L w) (hL : L.length ≤ 1048576) (hB : B ≤ w.heap.size)
    (h : ∀ v' w', Qu B v' (L ++ [y]) w' → w.grownBy w' v.ownBlock → (∀ k, k < w.heap.size → v.ownBlock ≠ some k → v'.ownBlock ≠ some k) → wpList Try.prog ops Q rest (a.put o.dst v') w') : wpList Try.prog ops Q (o :: rest) a w := by
  refine wpList_plain hgd fun K hK' => ?_
  obtain ⟨v', w', hr, h1, h2, h3⟩ := run_pushQ (ty := o.type) w B v L y ad hy hO hL hB
  unfold Oper.wp execOp
  simp only [ho, resolve, invoke, builtin, Sem.run_bind, Sem.run_pure, Result.andThen_ok, List.map_toArray, List.map_cons, List.map_nil, hs, hx, hr]
  exact hK' _ _ (h v' w' h1 h2 h3)

end Go.Proofs.Ytjmfffgddmnkmac

namespace Go.Proofs.Ytjmfffgddmnkmac
open Go Go.RowKit

/-- 64 finite complex numbers -/
def Cells (zs : Array Value) : Prop := zs.size = 64 ∧ ∀ k, k < 64 → ∃ x y, fin x = true ∧ fin y = true ∧ zs[k]? = some (.complex .f32 x y)

theorem size35 : (Try.prog.info? 31).map (·.size) = some 64 := by kernel_rfl
theorem info37 : (Try.prog.info? 33).map (fun i => (i.zero, i.size)) = some (some (.agg (pic 0 (Array.replicate 64 (.complex .f32 0 0)))), 65) := by kernel_rfl

theorem isComplex_yes (x y : Nat) (hx : fin x = true) (hy : fin y = true) (w : World) : Calls Try.prog 39 #[.complex .f32 x y] w fun e w' => e = .returned (.bool true) ∧ ∃ n, w' = w.drewN n := by
  have HX := Lib.hid (finite_yes x hx)
  have HY := Lib.hid (finite_yes y hy)
  clear hx hy
  go_enter Try.func39, Try.ntmps39
  go_wp2_with fail
  refine (HX.out _).mono ?_
  rintro e w1 ⟨rfl, n1, rfl⟩
  go_wp2_with fail
  refine (HY.out _).mono ?_
  rintro e w1 ⟨rfl, n2, rfl⟩
  go_wp2
  go_ret
  exact ⟨rfl, _, rfl⟩

/-- within -64 and 64 -/
def within (k : Int) : Bool := decide (-64 ≤ k) && decide (k ≤ 64)

theorem within_any (k : Int) (w : World) : Calls Try.prog 76 #[.int .i64 k, .int .i64 64] w fun e w' => e = .returned (.bool (within k)) ∧ w = w' := by
  by_cases h1 : -64 ≤ k
  · by_cases h2 : k ≤ 64
    · have e : within k = true := by simp [within, h1, h2]
      rw [e]
      go_enter Try.func76, Try.ntmps76
      go_wp2
      go_ret
      exact ⟨rfl, rfl⟩
    · have e : within k = false := by simp [within, h2]
      rw [e]
      go_enter Try.func76, Try.ntmps76
      go_wp2
      go_ret
      exact ⟨rfl, rfl⟩
  · have e : within k = false := by simp [within, h1]
    rw [e]
    go_enter Try.func76, Try.ntmps76
    go_wp2
    go_ret
    exact ⟨rfl, rfl⟩

theorem l01In_any (k : Int) (w : World) : Calls Try.prog 57 #[.int .i64 k, .int .i64 (-64), .int .i64 64] w fun e w' => e = .returned (.bool (within k)) ∧ w = w' := by
  by_cases h1 : -64 ≤ k
  · by_cases h2 : k ≤ 64
    · have e : within k = true := by simp [within, h1, h2]
      rw [e]
      go_enter Try.func57, Try.ntmps57
      go_wp2
      go_ret
      exact ⟨rfl, rfl⟩
    · have e : within k = false := by simp [within, h2]
      rw [e]
      go_enter Try.func57, Try.ntmps57
      go_wp2
      go_ret
      exact ⟨rfl, rfl⟩
  · have e : within k = false := by simp [within, h1]
    rw [e]
    go_enter Try.func57, Try.ntmps57
    go_wp2
    go_ret
    exact ⟨rfl, rfl⟩

end Go.Proofs.Ytjmfffgddmnkmac

namespace Go.Proofs.Ytjmfffgddmnkmac
open Go Go.RowKit

set_option maxRecDepth 100000 in
set_option maxHeartbeats 400000 in
theorem isComplex_any (x y : Nat) (w : World) : Calls Try.prog 39 #[.complex .f32 x y] w fun e w' => e = .returned (.bool (fin x && fin y)) ∧ ∃ n, w' = w.drewN n := by
  have HX := Lib.hid (finite_any x)
  have HY := Lib.hid (finite_any y)
  cases hx : fin x <;> rw [hx] at HX
  · go_enter Try.func39, Try.ntmps39
    go_wp2_with fail
    refine (HX.out _).mono ?_
    rintro e w1 ⟨rfl, n1, rfl⟩
    go_wp2
    go_ret
    exact ⟨rfl, _, rfl⟩
  · go_enter Try.func39, Try.ntmps39
    go_wp2_with fail
    refine (HX.out _).mono ?_
    rintro e w1 ⟨rfl, n1, rfl⟩
    go_wp2_with fail
    refine (HY.out _).mono ?_
    rintro e w1 ⟨rfl, n2, rfl⟩
    go_wp2
    go_ret
    exact ⟨by simp, _, rfl⟩

set_option maxRecDepth 100000 in
set_option maxHeartbeats 400000 in
theorem whole_any (x y : Nat) (w : World) : Calls Try.prog 83 #[.complex .f32 x y] w fun e w' => e = .returned (.bool (fin x && fin y)) ∧ ∃ n, w' = w.drewN n := by
  have HX := Lib.hid (fine_any x)
  have HY := Lib.hid (fine_any y)
  cases hx : fin x <;> rw [hx] at HX
  · go_enter Try.func83, Try.ntmps83
    go_wp2_with fail
    refine (HX.out _).mono ?_
    rintro e w1 ⟨rfl, n1, rfl⟩
    go_wp2
    go_ret
    exact ⟨rfl, _, rfl⟩
  · go_enter Try.func83, Try.ntmps83
    go_wp2_with fail
    refine (HX.out _).mono ?_
    rintro e w1 ⟨rfl, n1, rfl⟩
    go_wp2_with fail
    refine (HY.out _).mono ?_
    rintro e w1 ⟨rfl, n2, rfl⟩
    go_wp2
    go_ret
    exact ⟨by simp, _, rfl⟩
end Go.Proofs.Ytjmfffgddmnkmac

namespace Go.Proofs.Ytjmfffgddmnkmac
open Go

def tab : List (Nat × Nat) := [(1065353216, 0), (1065272429, 1036565813), (1065030847, 1044891073), (1064630795, 1049927729), (1064076127, 1053028117), (1063372184, 1056004841), (1062525746, 1057896922), (1061544964, 1059219353), (1060439283, 1060439283), (1059219353, 1061544963), (1057896922, 1062525745), (1056004842, 1063372183), (1053028118, 1064076127), (1049927730, 1064630795), (1044891077, 1065030847), (1036565820, 1065272430), (2147483648, 1065353216), (3184049461, 1065272429), (3192374721, 1065030847), (3197411377, 1064630795), (3200511765, 1064076127), (3203488489, 1063372184), (3205380570, 1062525746), (3206703001, 1061544964), (3207922931, 1060439283), (3209028611, 1059219353), (3210009393, 1057896922), (3210855831, 1056004842), (3211559775, 1053028118), (3212114443, 1049927730), (3212514495, 1044891077), (3212756078, 1036565820), (3212836864, 2147483648), (3212756077, 3184049461), (3212514495, 3192374721), (3212114443, 3197411377), (3211559775, 3200511765), (3210855832, 3203488489), (3210009394, 3205380570), (3209028612, 3206703001), (3207922931, 3207922931), (3206703001, 3209028611), (3205380570, 3210009393), (3203488490, 3210855831), (3200511766, 3211559775), (3197411378, 3212114443), (3192374725, 3212514495), (3184049468, 3212756078), (0, 3212836864), (1036565813, 3212756077), (1044891073, 3212514495), (1049927729, 3212114443), (1053028117, 3211559775), (1056004841, 3210855832), (1057896922, 3210009394), (1059219353, 3209028612), (1060439283, 3207922931), (1061544963, 3206703001), (1062525745, 3205380570), (1063372183, 3203488490), (1064076127, 3200511766), (1064630795, 3197411378), (1065030847, 3192374725), (1065272430, 3184049468)]
def tre (m : Nat) : Nat := (tab.getD m (0, 0)).1
def tim (m : Nat) : Nat := (tab.getD m (0, 0)).2

end Go.Proofs.Ytjmfffgddmnkmac

namespace Go.Proofs.Ytjmfffgddmnkmac
open Go

/-- the frame of the model's phase once the remainder is found -/
def at13 (fr : Frame) : Bool := match fr.tmps.getD 13 undef with | .int .. => true | _ => false
end Go.Proofs.Ytjmfffgddmnkmac
