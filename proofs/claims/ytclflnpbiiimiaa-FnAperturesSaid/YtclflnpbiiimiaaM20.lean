/- Ranges over the program's own iterator, and the lists and sums that are made of them. Condition: none. The list of what an iterator tells. Condition: at most 64 places. -/
import Derived.Test.YtclflnpbiiimiaaM16
import Derived.RangeFuncBox
import Derived.RangeFuncLeaves
import Derived.RangeFuncBound
import Derived.RangeFuncCalls
import Derived.WalkKit
import Derived.OwnWalkIn
import Derived.TacticsInMore
import Derived.LoopNIn
import Derived.LoopIn
import Derived.RangeFuncNested
import Derived.Shelf.Abstract
namespace Go.Proofs.Ytclflnpbiiimiaa
open Go Go.RowKit
attribute [local go_sem] Oper.semAt_some

/-- a place below n and a number that R lets stand there -/
def Pt (n : Nat) (R : Nat → Nat → Prop) := { x : Nat × Nat // x.1 < n ∧ R x.1 x.2 }

/-- a function value that ranges over the places 0 to n - 1, with numbers that R lets stand there -/
def Seq (g : Nat) (lb : Array Value) (n : Nat) (R : Nat → Nat → Prop) (n₀ : Nat) (w : World) : Prop :=
  SeqStopsK Fence.wide 9 Try.prog g lb (fun x : Pt n R => #[Value.int .i64 (x.1.1 : Int), Value.float .f32 x.1.2]) (Below n₀) (fun xs => xs.map (fun x => x.1.1) = List.range n) (fun _ => True) n w

theorem Seq.later {g : Nat} {lb : Array Value} {n : Nat} {R : Nat → Nat → Prop} {n₀ m : Nat} {w w' : World} (h : Seq g lb n R n₀ w) (hb : Below w.heap.size w w') (hm : n₀ ≤ m) : Seq g lb n R m w' :=
  fun l J Jx W hW hJ hJx hY h0 => h l J Jx W (hb.trans (hW.mono hb.size)) hJ hJx (fun pre x W1 hj hl => by
    obtain ⟨fn, tmps, assign, body, hy, hR⟩ := hY pre x W1 hj hl
    refine ⟨fn, tmps, assign, body, hy, hR.mono ?_⟩
    rintro e W' (⟨a, b, c⟩ | hx)
    · exact .inl ⟨a, b, c.mono hm⟩
    · exact .inr hx) h0

/-- what is asked of a closure that tells the number of a place -/
def Tells (g : Nat) (lb : Array Value) (n : Nat) (R : Nat → Nat → Prop) (n₀ : Nat) (w : World) : Prop :=
  ∀ j, j < n → ∀ W, Below n₀ w W → Calls Try.prog g (#[.int .i64 (j : Int)] ++ lb) W fun e W' => (∃ v, e = .returned (.float .f32 v) ∧ R j v) ∧ Below W.heap.size W W'

theorem below_grow {w w' : World} (h : Below w.heap.size w w') : w.grownBy w' none := ⟨h.os, h.tape, h.output, h.size, fun k hk _ => h.block k hk⟩

set_option maxRecDepth 100000 in
set_option maxHeartbeats 2000000 in
/-- the iterator itself -/
theorem inOrder_in (n : Nat) (hn : n ≤ 64) (R : Nat → Nat → Prop) (g : Nat) (lb : Array Value) (hg : ∀ (j : Int) v, (callFunc g (#[.int .i64 j] ++ lb)).run Try.prog v = .ok (.enter g (#[.int .i64 j] ++ lb)) v)
    (l Bn Bf n₀ : Nat) (J Jx : List (Pt n R) → World → Prop) (W : World) (hJ : AbidesFrom W.heap.size J)
    (hY : ∀ pre x W, J pre W → pre.length < n → YieldAt Fence.wide 8 Try.prog l #[.int .i64 (x.1.1 : Int), .float .f32 x.1.2] W fun e W' =>
      (e = .returned (.bool true) ∧ J (pre ++ [x]) W' ∧ Below n₀ W W') ∨ (e = .returned (.bool false) ∧ Jx (pre ++ [x]) W'))
    (hT : Tells g lb n R n₀ W) (hn₀ : n₀ ≤ W.heap.size)
    (hBn : W.cell? ⟨Bn, 0, none⟩ = some (.int .i64 n)) (hBf : W.cell? ⟨Bf, 0, none⟩ = some (.func (.func g) #[] lb)) (hbn : Bn < n₀) (hbf : Bf < n₀) (h0 : J [] W) :
    CallsIn Fence.wide 9 Try.prog 63 #[.func (.yield l) #[] #[], .pointer (some ⟨Bn, 0, none⟩), .pointer (some ⟨Bf, 0, none⟩)] W fun e W' => (∃ v, e = .returned v) ∧
      ((∃ ys, ys.map (fun x => x.1.1) = List.range n ∧ J ys W') ∨ (∃ pre, True ∧ Jx pre W')) := by
  refine callsIn_of_wp Try.func63 rfl trivial ?_ rfl
  simp only [Try.ntmps63, List.size_toArray, List.length_cons, List.length_nil, Nat.reduceAdd, Nat.reduceSub, Array.replicate_succ, Array.replicate_zero, List.push_toArray, List.append_toArray, List.nil_append, List.cons_append]
  gi_wp2
  gi_loopw [6] (fun i wr => ∃ (k : Nat) (pre : List (Pt n R)), k ≤ n ∧ i = .int .i64 k ∧ pre.map (fun x => x.1.1) = List.range k ∧ J pre wr ∧ Below n₀ W wr)
    (fun i _ => n - (intOf i).toNat)
  case atStart => exact ⟨0, [], Nat.zero_le _, rfl, rfl, h0, Below.refl _ _⟩
  case round =>
    obtain ⟨k, pre, hk, rfl, hpre, hJs, hB⟩ := hrel
    have hbn2 : wr.cell? ⟨Bn, 0, none⟩ = some (.int .i64 n) := (hB.cell (p := ⟨Bn, 0, none⟩) hbn).trans hBn
    have hbf2 : wr.cell? ⟨Bf, 0, none⟩ = some (.func (.func g) #[] lb) := (hB.cell (p := ⟨Bf, 0, none⟩) hbf).trans hBf
    by_cases hlt : k < n
    · have hdk : decide ((k : Int) < (n : Int)) = true := by simp; omega
      gi_wp2
      refine ⟨trivial, (callsIn_wide.2 (hT k hlt wr hB)).mono ?_⟩
      rintro e W1 ⟨⟨v, rfl, hv⟩, hb1⟩
      have hlen : pre.length = k := by have := congrArg List.length hpre; simpa using this
      obtain ⟨fn, tmps, assign, body, hy, hR⟩ := hY pre ⟨(k, v), hlt, hv⟩ W1 (hJ _ _ _ none hJs (below_grow hb1) (fun r h => by cases h)) (by omega)
      dsimp only at hy
      gi_wp2
      refine hR.mono ?_
      rintro e W3 (⟨rfl, hJ3, hk3⟩ | ⟨rfl, hJx3⟩)
      · gi_wp2
        go_roundw
        case rel => exact ⟨k + 1, _, by omega, by simp, by rw [List.map_append, hpre, List.range_succ]; rfl, hJ3, (hB.trans (hb1.mono (Nat.le_trans hn₀ hB.size))).trans hk3⟩
        case measure => simp [intOf]; omega
      · gi_wp2
        refine bodyPost_ret (results_none rfl _ _ _) rfl ?_
        exact ⟨⟨_, rfl⟩, .inr ⟨_, trivial, hJx3⟩⟩
    · obtain rfl : k = n := by omega
      gi_wp2
      go_end0
      exact ⟨⟨_, rfl⟩, .inl ⟨pre, hpre, hJs⟩⟩

/-- the iterator as it lies in memory -/
theorem inOrder_seq (n : Nat) (hn : n ≤ 64) (R : Nat → Nat → Prop) (g : Nat) (lb : Array Value) (hg : ∀ (j : Int) v, (callFunc g (#[.int .i64 j] ++ lb)).run Try.prog v = .ok (.enter g (#[.int .i64 j] ++ lb)) v)
    (Bn Bf n₀ : Nat) (w : World) (hT : Tells g lb n R n₀ w) (hn₀ : n₀ ≤ w.heap.size)
    (hBn : w.cell? ⟨Bn, 0, none⟩ = some (.int .i64 n)) (hBf : w.cell? ⟨Bf, 0, none⟩ = some (.func (.func g) #[] lb)) (hbn : Bn < n₀) (hbf : Bf < n₀) :
    Seq 63 #[.pointer (some ⟨Bn, 0, none⟩), .pointer (some ⟨Bf, 0, none⟩)] n R n₀ w :=
  fun l J Jx W hW hJ _ hY h0 =>
    inOrder_in n hn R g lb hg l Bn Bf n₀ J Jx W hJ hY (fun j hj V hV => hT j hj V ((hW.mono hn₀).trans hV)) (Nat.le_trans hn₀ hW.size)
      ((hW.cell (p := ⟨Bn, 0, none⟩) (by simp; omega)).trans hBn) ((hW.cell (p := ⟨Bf, 0, none⟩) (by simp; omega)).trans hBf) hbn hbf h0

/-- what the maker of an iterator hands back -/
def Makes (f : FuncId) (args : Array Value) (n : Nat) (R : Nat → Nat → Prop) : Prop :=
  ∀ w, Calls Try.prog f args w fun e w' => (∃ lb, e = .returned (.func (.func 63) #[] lb) ∧ Seq 63 lb n R w'.heap.size w') ∧ Below w.heap.size w w'

set_option maxRecDepth 100000 in
set_option maxHeartbeats 400000 in
theorem inOrder_any (n : Nat) (hn : n ≤ 64) (R : Nat → Nat → Prop) (g : Nat) (lb : Array Value) (hg : ∀ (j : Int) v, (callFunc g (#[.int .i64 j] ++ lb)).run Try.prog v = .ok (.enter g (#[.int .i64 j] ++ lb)) v)
    (w : World) (hT : Tells g lb n R w.heap.size w) : Calls Try.prog 53 #[.int .i64 n, .func (.func g) #[] lb] w fun e w' =>
      (∃ lb', e = .returned (.func (.func 63) #[] lb') ∧ Seq 63 lb' n R w'.heap.size w') ∧ Below w.heap.size w w' := by
  have HT := Lib.hid hT
  clear hT
  go_enter Try.func53, Try.ntmps53
  go_wp2
  go_ret
  have B1 : Below w.heap.size w ((w.alloc (.cells #[.int .i64 n] 2)).alloc (.cells #[.func (.func g) #[] lb] 56)) := ((Below.refl _ w).alloc (Nat.le_refl _) _).alloc (by simp) _
  refine ⟨⟨_, rfl, ?_⟩, B1⟩
  have bN := Boxed.new w 2 (.int .i64 n)
  have bF := Boxed.new (w.alloc (.cells #[.int .i64 n] 2)) 56 (.func (.func g) #[] lb)
  rw [World.size_alloc] at bF
  refine inOrder_seq n hn R g lb hg w.heap.size (w.heap.size + 1) _ _ (fun j hj V hV => HT.out j hj V (B1.trans (hV.mono (by simp; omega)))) (Nat.le_refl _) (bN.alloc _).cell bF.cell (by simp; omega) (by simp)

end Go.Proofs.Ytclflnpbiiimiaa

namespace Go.Proofs.Ytclflnpbiiimiaa
open Go Go.RowKit Go.Shelf
attribute [local go_sem] Oper.semAt_some

theorem own_turn {B : Nat} {v : Value} {L : List Nat} {W W' : World} {row : Option Nat} (h : OwnF B v L W) (hg : W.grownBy W' row) (hr : ∀ r, row = some r → ∃ o : Obj, W.heap[r]? = some o ∧ o.isCells = false) : OwnF B v L W' := by
  refine World.ownsRow.kept h hg ?_
  rcases h.2 with ⟨rfl, _⟩ | ⟨g, cap, cur, rfl, _, hgb, _⟩
  · exact .inl rfl
  · refine .inr fun e' => ?_
    obtain ⟨o, ho, hc⟩ := hr g (by simpa [Value.ownBlock] using e'.symm)
    rw [hgb] at ho; cases ho; cases hc
theorem box_turn {W W' : World} {B : Nat} {t : TypeId} {v : Value} {row : Option Nat} (h : Boxed W B t v) (hg : W.grownBy W' row) (hr : ∀ r, row = some r → ∃ o : Obj, W.heap[r]? = some o ∧ o.isCells = false) : Boxed W' B t v := by
  refine h.kept hg fun e' => ?_
  obtain ⟨o, ho, hc⟩ := hr B e'.symm
  rw [show W.heap[B]? = _ from h] at ho; cases ho; cases hc

theorem grown_set (W : World) (b q : Nat) (v : Value) : W.grownBy (W.setCell ⟨b, q, none⟩ v) (some b) :=
  ⟨rfl, rfl, rfl, (KeepsWalks.setCell W _ v).size, fun k _ hk => Below.heap_setCell _ _ _ k (fun e => hk (by rw [e]))⟩

/-- the list behind what has come -/
def putAll {n : Nat} {R : Nat → Nat → Prop} (pre : List (Pt n R)) : List Nat := pre.foldl (fun L x => L.set x.1.1 x.1.2) (List.replicate n 0)
theorem putAll_snoc {n : Nat} {R : Nat → Nat → Prop} (pre : List (Pt n R)) (x : Pt n R) : putAll (pre ++ [x]) = (putAll pre).set x.1.1 x.1.2 := by simp [putAll]
theorem putAll_len {n : Nat} {R : Nat → Nat → Prop} (pre : List (Pt n R)) : (putAll pre).length = n := by
  unfold putAll
  have : ∀ (L : List Nat), (pre.foldl (fun L x => L.set x.1.1 x.1.2) L).length = L.length := by
    induction pre with
    | nil => intro L; rfl
    | cons x xs ih => intro L; rw [List.foldl_cons, ih, List.length_set]
  rw [this, List.length_replicate]
theorem putAll_get {n : Nat} {R : Nat → Nat → Prop} : ∀ (k : Nat) (pre : List (Pt n R)), k ≤ n → pre.map (fun x => x.1.1) = List.range k → ∀ j, j < k → R j ((putAll pre).getD j 0)
  | 0, _, _, _, j, hj => by omega
  | k + 1, pre, hk, h, j, hj => by
    have hl : pre.length = k + 1 := by have := congrArg List.length h; simpa using this
    obtain ⟨ini, x, rfl⟩ : ∃ ini x, pre = ini ++ [x] := by
      rcases List.eq_nil_or_concat pre with rfl | ⟨ini, x, h⟩
      · simp at hl
      · exact ⟨ini, x, by rw [h]; simp⟩
    rw [List.map_append, List.range_succ] at h
    obtain ⟨h1, h2⟩ := List.append_inj' h rfl
    have hx : x.1.1 = k := by simpa using h2
    rw [putAll_snoc, List.getD_eq_getElem?_getD, List.getElem?_set, putAll_len]
    by_cases e : x.1.1 = j
    · rw [if_pos e, if_pos (by omega)]
      rw [← e]
      exact x.2.2
    · rw [if_neg e]
      have := putAll_get k ini (by omega) h1 j (by omega)
      rwa [List.getD_eq_getElem?_getD] at this

set_option maxRecDepth 100000 in
set_option maxHeartbeats 2000000 in
theorem numbersOf_any (n : Nat) (hn : n ≤ 64) (R : Nat → Nat → Prop) (lb : Array Value) (w : World) (hS : Seq 63 lb n R w.heap.size w) :
    Calls Try.prog 26 #[.int .i64 n, .func (.func 63) #[] lb] w fun e w' =>
      ∃ v L, e = .returned v ∧ OwnF w.heap.size v L w' ∧ L.length = n ∧ (∀ j, j < n → R j (L.getD j 0)) ∧ Below w.heap.size w w' := by
  obtain ⟨i0, hi, hz0, hz1, hz2⟩ := info_parts infoF
  have HS := Lib.hid hS
  clear hS
  refine (callsIn_wide (n := 10)).1 ?_
  refine callsIn_of_wp_marks Try.func26 rfl trivial ?_ rfl
  simp only [Try.ntmps26, List.size_toArray, List.length_cons, List.length_nil, Nat.reduceAdd, Nat.reduceSub, Array.replicate_succ, Array.replicate_zero, List.push_toArray, List.append_toArray, List.nil_append, List.cons_append]
  refine wpIn_wide.2 ?_
  go_wp2_with (refine wpList_make_full _ rfl _ _ 25 rfl w.heap.size 40 i0 (.float .f32 0) 1 Try.underlying25 hi hz0 hz1 .i64 .i64 n n n rfl rfl rfl rfl ?b2 ?b3 (Nat.le_refl _) ?_)
  case b2 => rw [hz2]; omega
  case b3 => unfold maxLen; omega
  intro w1 hown hgrow
  have O1 : Hid (OwnF w.heap.size (.slice (some ⟨w.heap.size, 0, none⟩) n n) (List.replicate n 0) w1) := by
    refine Lib.hid ?_
    have e : (madeCells #[Value.float .f32 0] n).toList = (List.replicate n 0).map (Value.float .f32) := by
      rw [toList_madeCells_one]
      simp
    rw [e] at hown
    unfold OwnF
    rw [List.length_replicate]
    exact hown
  have hB1 : Below w.heap.size w w1 := (Below.refl _ _).grown hgrow (Nat.le_refl _) (fun k hk => by cases hk)
  have hsz := hB1.size
  clear hown hgrow hi hz0 hz1 hz2
  go_wp2_with fail
  have hBx := Boxed.new w1 25 (.slice (some ⟨w.heap.size, 0, none⟩) n n)
  have hB2 : Below w.heap.size w (w1.alloc (.cells #[.slice (some ⟨w.heap.size, 0, none⟩) n n] 25)) := hB1.alloc hsz _
  have O2 : Hid (OwnF w.heap.size (.slice (some ⟨w.heap.size, 0, none⟩) n n) (List.replicate n 0) (w1.alloc (.cells #[.slice (some ⟨w.heap.size, 0, none⟩) n n] 25))) := Lib.hid (O1.out.alloc _)
  have hlt2 := hBx.lt
  generalize w1.alloc (.cells #[.slice (some ⟨w.heap.size, 0, none⟩) n n] 25) = w2 at *
  generalize w1.heap.size = bx at *
  clear O1 hB1
  refine (wpIn_wide (n := 10)).1 ?_
  refine wpIn_rangeFunc_ownG rfl (by omega) (gf := 63) (lb := lb) rfl trivial (enters_of Try.func63 (by kernel_rfl) rfl)
    HS.out belowK_t (belowK_b hB2.size) hB2 (fun _ => rfl)
    (fun pre W => OwnF w.heap.size (.slice (some ⟨w.heap.size, 0, none⟩) n n) (putAll pre) W ∧ Boxed W bx 25 (.slice (some ⟨w.heap.size, 0, none⟩) n n) ∧ Below w.heap.size w W)
    (fun _ _ _ => False)
    (fun pre A B row hs hg hr => ⟨own_turn hs.1 hg (fun r e => (hr r e).2), box_turn hs.2.1 hg (fun r e => (hr r e).2), hs.2.2.grown hg hs.2.2.size (fun k e => Nat.le_trans hB2.size (hr k e).1)⟩)
    (fun _ _ _ _ _ hs _ _ => hs)
    ⟨O2.out, hBx, hB2⟩
    (fun x => { tmps := #[.int .i64 n, .func (.func 63) #[] lb, undef, undef, .slice none 0 0, .pointer (some ⟨bx, 0, none⟩), .int .i64 (x.1.1 : Int), .float .f32 x.1.2, .int .i64 n, .slice (some ⟨w.heap.size, 0, none⟩) n n, .func (.func 63) #[] lb, .int .i64 (x.1.1 : Int), .float .f32 x.1.2, undef, undef, undef, undef, undef], defers := [] }) ?assign ?body ?done ?stop
  case assign =>
    intro l x W K hK
    gi_wp2
    exact hK
  case body =>
    rintro l pre x W ⟨hO, hb, hB⟩ _
    have hc := hb.cell
    have hf := hb.frozen
    have hx := x.2.1
    have hpl := putAll_len pre
    have hne : bx ≠ w.heap.size := fun e => hb.not_row (by decide) hO (by rw [e]; rfl)
    have o3 : OwnF w.heap.size (.slice (some ⟨w.heap.size, 0, none⟩) (putAll pre).length n) (putAll pre) W := by rw [hpl]; exact hO
    have c1 := o3.cell x.1.1 (by omega)
    have f1 := o3.free x.1.1
    have O4 := o3.stored x.1.1 x.1.2
    rw [hpl] at O4
    have HO4 := Lib.hid O4
    have HB := Lib.hid hB
    clear O4 o3 hO hB
    gi_wp2
    exact ⟨(KeepsOthers.setCell _ _ _).from _, (Below.refl w.heap.size W).setCell (p := ⟨w.heap.size, x.1.1, none⟩) (Nat.le_refl _) _, by rw [putAll_snoc]; exact HO4.out, hb.kept (grown_set _ _ _ _) (by simpa using hne), HB.out.setCell (p := ⟨w.heap.size, x.1.1, none⟩) (Nat.le_refl _) _⟩
  case done =>
    rintro D xs W hD hxs ⟨hO, hb, hB⟩ hK
    have hc := hb.cell
    have HO := Lib.hid hO
    have HB := Lib.hid hB
    clear hO hB
    go_wp2
    refine ⟨by simp, .inl ⟨_, _, rfl, run_takeDeferred hK, ?_⟩⟩
    refine ⟨_, results_tmp (t := 4) rfl _ _ _, ?_⟩
    exact ⟨.slice (some ⟨w.heap.size, 0, none⟩) n n, putAll xs, rfl, ownsRow_putObj HO.out _ hK rfl, putAll_len xs, fun j hj => putAll_get n xs (Nat.le_refl _) hxs j hj, HB.out.trans (belowK_b (w := w) (Nat.le_refl _) W D _ _ (Nat.le_trans hB2.size hD) hK rfl rfl)⟩
  case stop =>
    rintro D c pre W _ _ h _
    exact h.elim

end Go.Proofs.Ytclflnpbiiimiaa
