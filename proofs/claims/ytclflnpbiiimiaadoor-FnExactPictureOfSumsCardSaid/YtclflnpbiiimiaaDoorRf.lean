/- Ranges over the program's own iterator, and the lists and sums that are made of them. Condition: none. -/
import Derived.Test.YtclflnpbiiimiaaDoorKi
import Derived.RangeFuncBox
import Derived.RangeFuncLeaves
import Derived.RangeFuncBound
import Derived.RangeFuncCalls
import Derived.WalkKit
import Derived.OwnWalkIn
import Derived.TacticsInMore
import Derived.LoopNIn
import Derived.LoopIn
namespace Go.Proofs.YtclflnpbiiimiaaDoor
open Go Go.RowKit
attribute [local go_sem] Oper.semAt_some

/-- a place below n and a number that R lets stand there -/
def Pt (n : Nat) (R : Nat → Nat → Prop) := { x : Nat × Nat // x.1 < n ∧ R x.1 x.2 }

/-- a function value that ranges over the places 0 to n - 1, with numbers that R lets stand there -/
def Seq (g : Nat) (lb : Array Value) (n : Nat) (R : Nat → Nat → Prop) (n₀ : Nat) (w : World) : Prop :=
  SeqStopsK Fence.wide 9 Tryd.prog g lb (fun x : Pt n R => #[Value.int .i64 (x.1.1 : Int), Value.float .f32 x.1.2]) (Below n₀) (fun xs => xs.map (fun x => x.1.1) = List.range n) (fun _ => True) n w

theorem Seq.later {g : Nat} {lb : Array Value} {n : Nat} {R : Nat → Nat → Prop} {n₀ m : Nat} {w w' : World} (h : Seq g lb n R n₀ w) (hb : Below w.heap.size w w') (hm : n₀ ≤ m) : Seq g lb n R m w' :=
  fun l J Jx W hW hJ hJx hY h0 => h l J Jx W (hb.trans (hW.mono hb.size)) hJ hJx (fun pre x W1 hj hl => by
    obtain ⟨fn, tmps, assign, body, hy, hR⟩ := hY pre x W1 hj hl
    refine ⟨fn, tmps, assign, body, hy, hR.mono ?_⟩
    rintro e W' (⟨a, b, c⟩ | hx)
    · exact .inl ⟨a, b, c.mono hm⟩
    · exact .inr hx) h0

/-- what is asked of a closure that tells the number of a place -/
def Tells (g : Nat) (lb : Array Value) (n : Nat) (R : Nat → Nat → Prop) (n₀ : Nat) (w : World) : Prop :=
  ∀ j, j < n → ∀ W, Below n₀ w W → Calls Tryd.prog g (#[.int .i64 (j : Int)] ++ lb) W fun e W' => (∃ v, e = .returned (.float .f32 v) ∧ R j v) ∧ Below W.heap.size W W'

theorem below_grow {w w' : World} (h : Below w.heap.size w w') : w.grownBy w' none := ⟨h.os, h.tape, h.output, h.size, fun k hk _ => h.block k hk⟩

set_option maxRecDepth 100000 in
set_option maxHeartbeats 2000000 in
/-- the iterator itself -/
theorem inOrder_in (n : Nat) (hn : n ≤ 64) (R : Nat → Nat → Prop) (g : Nat) (lb : Array Value) (hg : ∀ (j : Int) v, (callFunc g (#[.int .i64 j] ++ lb)).run Tryd.prog v = .ok (.enter g (#[.int .i64 j] ++ lb)) v)
    (l Bn Bf n₀ : Nat) (J Jx : List (Pt n R) → World → Prop) (W : World) (hJ : AbidesFrom W.heap.size J)
    (hY : ∀ pre x W, J pre W → pre.length < n → YieldAt Fence.wide 8 Tryd.prog l #[.int .i64 (x.1.1 : Int), .float .f32 x.1.2] W fun e W' =>
      (e = .returned (.bool true) ∧ J (pre ++ [x]) W' ∧ Below n₀ W W') ∨ (e = .returned (.bool false) ∧ Jx (pre ++ [x]) W'))
    (hT : Tells g lb n R n₀ W) (hn₀ : n₀ ≤ W.heap.size)
    (hBn : W.cell? ⟨Bn, 0, none⟩ = some (.int .i64 n)) (hBf : W.cell? ⟨Bf, 0, none⟩ = some (.func (.func g) #[] lb)) (hbn : Bn < n₀) (hbf : Bf < n₀) (h0 : J [] W) :
    CallsIn Fence.wide 9 Tryd.prog 80 #[.func (.yield l) #[] #[], .pointer (some ⟨Bn, 0, none⟩), .pointer (some ⟨Bf, 0, none⟩)] W fun e W' => (∃ v, e = .returned v) ∧
      ((∃ ys, ys.map (fun x => x.1.1) = List.range n ∧ J ys W') ∨ (∃ pre, True ∧ Jx pre W')) := by
  refine callsIn_of_wp Tryd.func80 rfl trivial ?_ rfl
  simp only [Tryd.ntmps80, List.size_toArray, List.length_cons, List.length_nil, Nat.reduceAdd, Nat.reduceSub, Array.replicate_succ, Array.replicate_zero, List.push_toArray, List.append_toArray, List.nil_append, List.cons_append]
  gi_wp2
  gi_loopw [6] (fun i wr => ∃ (k : Nat) (pre : List (Pt n R)), k ≤ n ∧ i = .int .i64 k ∧ pre.map (fun x => x.1.1) = List.range k ∧ J pre wr ∧ Below n₀ W wr)
    (fun i _ => n - (intOf i).toNat)
  case atStart => exact ⟨0, [], Nat.zero_le _, rfl, rfl, h0, Below.refl _ _⟩
  case round =>
    obtain ⟨k, pre, hk, rfl, hpre, hJs, hB⟩ := hrel
    have hbn2 : wr.cell? ⟨Bn, 0, none⟩ = some (.int .i64 n) := (hB.cell (p := ⟨Bn, 0, none⟩) hbn).trans hBn
    have hbf2 : wr.cell? ⟨Bf, 0, none⟩ = some (.func (.func g) #[] lb) := (hB.cell (p := ⟨Bf, 0, none⟩) hbf).trans hBf
    by_cases hlt : k < n
    · have hdk : decide ((k : Int) < (n : Int)) = true := by simp; omega
      gi_wp2
      refine ⟨trivial, (callsIn_wide.2 (hT k hlt wr hB)).mono ?_⟩
      rintro e W1 ⟨⟨v, rfl, hv⟩, hb1⟩
      have hlen : pre.length = k := by have := congrArg List.length hpre; simpa using this
      obtain ⟨fn, tmps, assign, body, hy, hR⟩ := hY pre ⟨(k, v), hlt, hv⟩ W1 (hJ _ _ _ none hJs (below_grow hb1) (fun r h => by cases h)) (by omega)
      dsimp only at hy
      gi_wp2
      refine hR.mono ?_
      rintro e W3 (⟨rfl, hJ3, hk3⟩ | ⟨rfl, hJx3⟩)
      · gi_wp2
        go_roundw
        case rel => exact ⟨k + 1, _, by omega, by simp, by rw [List.map_append, hpre, List.range_succ]; rfl, hJ3, (hB.trans (hb1.mono (Nat.le_trans hn₀ hB.size))).trans hk3⟩
        case measure => simp [intOf]; omega
      · gi_wp2
        refine bodyPost_ret (results_none rfl _ _ _) rfl ?_
        exact ⟨⟨_, rfl⟩, .inr ⟨_, trivial, hJx3⟩⟩
    · obtain rfl : k = n := by omega
      gi_wp2
      go_end0
      exact ⟨⟨_, rfl⟩, .inl ⟨pre, hpre, hJs⟩⟩

/-- the iterator as it lies in memory -/
theorem inOrder_seq (n : Nat) (hn : n ≤ 64) (R : Nat → Nat → Prop) (g : Nat) (lb : Array Value) (hg : ∀ (j : Int) v, (callFunc g (#[.int .i64 j] ++ lb)).run Tryd.prog v = .ok (.enter g (#[.int .i64 j] ++ lb)) v)
    (Bn Bf n₀ : Nat) (w : World) (hT : Tells g lb n R n₀ w) (hn₀ : n₀ ≤ w.heap.size)
    (hBn : w.cell? ⟨Bn, 0, none⟩ = some (.int .i64 n)) (hBf : w.cell? ⟨Bf, 0, none⟩ = some (.func (.func g) #[] lb)) (hbn : Bn < n₀) (hbf : Bf < n₀) :
    Seq 80 #[.pointer (some ⟨Bn, 0, none⟩), .pointer (some ⟨Bf, 0, none⟩)] n R n₀ w :=
  fun l J Jx W hW hJ _ hY h0 =>
    inOrder_in n hn R g lb hg l Bn Bf n₀ J Jx W hJ hY (fun j hj V hV => hT j hj V ((hW.mono hn₀).trans hV)) (Nat.le_trans hn₀ hW.size)
      ((hW.cell (p := ⟨Bn, 0, none⟩) (by simp; omega)).trans hBn) ((hW.cell (p := ⟨Bf, 0, none⟩) (by simp; omega)).trans hBf) hbn hbf h0

/-- what the maker of an iterator hands back -/
def Makes (f : FuncId) (args : Array Value) (n : Nat) (R : Nat → Nat → Prop) : Prop :=
  ∀ w, Calls Tryd.prog f args w fun e w' => (∃ lb, e = .returned (.func (.func 80) #[] lb) ∧ Seq 80 lb n R w'.heap.size w') ∧ Below w.heap.size w w'

set_option maxRecDepth 100000 in
set_option maxHeartbeats 400000 in
theorem inOrder_any (n : Nat) (hn : n ≤ 64) (R : Nat → Nat → Prop) (g : Nat) (lb : Array Value) (hg : ∀ (j : Int) v, (callFunc g (#[.int .i64 j] ++ lb)).run Tryd.prog v = .ok (.enter g (#[.int .i64 j] ++ lb)) v)
    (w : World) (hT : Tells g lb n R w.heap.size w) : Calls Tryd.prog 65 #[.int .i64 n, .func (.func g) #[] lb] w fun e w' =>
      (∃ lb', e = .returned (.func (.func 80) #[] lb') ∧ Seq 80 lb' n R w'.heap.size w') ∧ Below w.heap.size w w' := by
  have HT := Lib.hid hT
  clear hT
  go_enter Tryd.func65, Tryd.ntmps65
  go_wp2
  go_ret
  have B1 : Below w.heap.size w ((w.alloc (.cells #[.int .i64 n] 2)).alloc (.cells #[.func (.func g) #[] lb] 79)) := ((Below.refl _ w).alloc (Nat.le_refl _) _).alloc (by simp) _
  refine ⟨⟨_, rfl, ?_⟩, B1⟩
  have bN := Boxed.new w 2 (.int .i64 n)
  have bF := Boxed.new (w.alloc (.cells #[.int .i64 n] 2)) 79 (.func (.func g) #[] lb)
  rw [World.size_alloc] at bF
  refine inOrder_seq n hn R g lb hg w.heap.size (w.heap.size + 1) _ _ (fun j hj V hV => HT.out j hj V (B1.trans (hV.mono (by simp; omega)))) (Nat.le_refl _) (bN.alloc _).cell bF.cell (by simp; omega) (by simp)

end Go.Proofs.YtclflnpbiiimiaaDoor
