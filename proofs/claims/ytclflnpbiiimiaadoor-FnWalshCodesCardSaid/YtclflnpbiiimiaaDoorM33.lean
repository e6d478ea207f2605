/- The program's SumsBack: the list and the code, whatever the list is. Condition: as many numbers as a law lets in. The program's iterator where a round writes what lay ahead of it: what lies between two marks is kept. Condition: none. -/
import Derived.Test.YtclflnpbiiimiaaDoorM32
import Derived.Test.YtclflnpbiiimiaaDoorM19
import Derived.Test.YtclflnpbiiimiaaDoorRx
namespace Go.Proofs.YtclflnpbiiimiaaDoor
open Go Go.RowKit Ieee

set_option maxRecDepth 100000 in
set_option maxHeartbeats 1600000 in
theorem implBk (A : List Nat) : ListsF 14 A (bkList A) (sbCode A) := by
  intro lA u w hU
  have HSB := Lib.hid (implSb A lA u w hU)
  obtain ⟨aA, cA, rfl, hA⟩ := hU.came
  cases hc : decide (sbCode A = 0)
  · have hc0 : sbCode A ≠ 0 := of_decide_eq_false hc
    have HE1 : Hid (sbList A = []) := Lib.hid (by unfold sbList; rw [if_neg hc0])
    have HE2 : Hid (bkList A = []) := Lib.hid (by unfold bkList; rw [if_neg hc0])
    rw [HE1.out] at HSB
    generalize sbCode A = C at *
    clear hU hA lA hc hc0
    go_enter Tryd.func14, Tryd.ntmps14
    go_wp2_with fail
    refine HSB.out.mono ?_
    rintro e w1 ⟨r, rfl, hO, hb⟩
    have B1 := Lib.hid hb
    have HO := Lib.hid hO
    obtain ⟨ad, cp, rfl, _⟩ := hO.came
    clear hO hb
    go_wp2_with fail
    go_loopw [14] (fun i wr => i = .int .i64 0 ∧ wr = w1) (fun _ _ => 0)
    case atStart => exact ⟨rfl, rfl⟩
    case round =>
      obtain ⟨rfl, rfl⟩ := hrel
      go_wp2_with fail
      go_ret2
      exact ⟨_, rfl, by rw [HE2.out]; exact HO.out, B1.out⟩
  · have hc0 : sbCode A = 0 := of_decide_eq_true hc
    have h0 := hc0
    have hf : A.all fin = true := by
      unfold sbCode at h0
      cases h : A.all fin
      · rw [if_pos h] at h0; omega
      · rfl
    have hn : lenI (A.length : Int) = true := by
      unfold sbCode at h0
      cases h : lenI (A.length : Int)
      · rw [if_neg (by rw [hf]; decide), if_pos h] at h0; omega
      · rfl
    have ho : okRnd A (lg A.length) = true := by
      unfold sbCode at h0
      rw [if_neg (by rw [hf]; decide), if_neg (by rw [hn]; decide)] at h0
      cases h : okRnd A (lg A.length)
      · rw [if_neg (by rw [h]; decide)] at h0; omega
      · rfl
    have hn64 : 1 ≤ A.length ∧ A.length ≤ 64 := by rcases lenI_yes hn with e | e | e | e | e | e | e <;> omega
    have HE1 : Hid (sbList A = rnds A (lg A.length)) := Lib.hid (by unfold sbList; rw [if_pos hc0])
    have HE2 : Hid (bkList A = (rnds A (lg A.length)).map (fun x => divS x (fl32 A.length))) := Lib.hid (by unfold bkList; rw [if_pos hc0])
    have HMF := Lib.hid (okRnd_last ho)
    have hml : (rnds A (lg A.length)).length = A.length := rnds_len _ _
    have HDV := Lib.hid (fun x hx => divS_some x A.length hx hn)
    rw [HE1.out, hc0] at HSB
    rw [hc0]
    generalize rnds A (lg A.length) = M at *
    have HML := Lib.hid hml
    generalize hnA : A.length = n at *
    clear hU hA lA hc hc0 h0 hf hn ho hml hnA
    go_enter Tryd.func14, Tryd.ntmps14
    go_wp2_with fail
    refine HSB.out.mono ?_
    rintro e w1 ⟨r, rfl, O3, B3⟩
    have BB := Lib.hid B3
    obtain ⟨g, cp, rfl, hg, _⟩ := O3.form (by rw [HML.out]; omega)
    have OO : Hid (OwnF w.heap.size (.slice (some ⟨g, 0, none⟩) M.length cp) (bpre M (fun x => divS x (fl32 n)) 0) w1) := Lib.hid (by rw [bpre_zero]; exact O3)
    rw [HML.out] at OO ⊢
    have HG := Lib.hid hg
    clear O3 B3 hg
    go_wp2_with fail
    go_loopw [14] (fun i wr => ∃ k : Nat, k ≤ n ∧ i = .int .i64 k ∧ Hid (OwnF w.heap.size (.slice (some ⟨g, 0, none⟩) n cp) (bpre M (fun x => divS x (fl32 n)) k) wr) ∧ Hid (Below w.heap.size w wr)) (fun i _ => n - (intOf i).toNat)
    case atStart => exact ⟨0, by omega, rfl, OO, BB⟩
    case round =>
      clear OO BB
      obtain ⟨k, hk, rfl, O, B⟩ := hrel
      by_cases hlt : k < n
      · have hdk : decide ((k : Int) < (n : Int)) = true := by simp; omega
        have hkM : k < M.length := by rw [HML.out]; exact hlt
        have hbl := bpre_len M (fun x => divS x (fl32 n)) k (by omega)
        rw [HML.out] at hbl
        have o3 : OwnF w.heap.size (.slice (some ⟨g, 0, none⟩) (bpre M (fun x => divS x (fl32 n)) k).length cp) (bpre M (fun x => divS x (fl32 n)) k) wr := by rw [hbl]; exact O.out
        have c1 := o3.cell k (by omega)
        have f1 := o3.free k
        rw [bpre_old M _ k hkM] at c1
        have hd := HDV.out (M.getD k 0) (all_at HMF.out k hkM)
        have O5 := o3.stored k (divS (M.getD k 0) (fl32 n))
        rw [bpre_set M (fun x => divS x (fl32 n)) k hkM, hbl] at O5
        have OO := Lib.hid O5
        have BB : Hid (Below w.heap.size w (wr.setCell ⟨g, k, none⟩ (.float .f32 (divS (M.getD k 0) (fl32 n))))) := Lib.hid (B.out.setCell (p := ⟨g, k, none⟩) HG.out _)
        generalize M.getD k 0 = x at *
        have h1 := fun w => run_float_arith (P := Tryd.prog) w .quo 38 .f32 x (fl32 n) (divS x (fl32 n)) hd
        generalize hZ : divS x (fl32 n) = z at *
        have h2 : ∀ w, (binOp .quo 38 (.float .f32 x) (.float .f32 (floatOfInt .f32 (n : Int)))).run Tryd.prog w = .ok (.float .f32 z) w := h1
        clear o3 O5 hd hkM hbl h1 hZ
        go_wp2_with fail
        exact ⟨⟨k + 1, by omega, by go_num, OO, BB⟩, by simp [intOf]; omega⟩
      · obtain rfl : k = n := by omega
        have O3 : Hid (OwnF w.heap.size (.slice (some ⟨g, 0, none⟩) k cp) (M.map (fun x => divS x (fl32 k))) wr) := Lib.hid (by
          have := O.out
          rw [← HML.out, bpre_all, HML.out] at this
          exact this)
        go_wp2_with fail
        go_ret2
        exact ⟨_, rfl, by rw [HE2.out]; exact O3.out, B.out⟩

end Go.Proofs.YtclflnpbiiimiaaDoor

namespace Go.Proofs.YtclflnpbiiimiaaDoor
open Go Go.RowKit Go.Shelf
attribute [local go_sem] Oper.semAt_some

/-- what lies from lo to hi lies as it lay -/
structure Btw (lo hi : Nat) (w w' : World) : Prop where
  os : w'.os = w.os
  tape : w'.tape = w.tape
  output : w'.output = w.output
  size : w.heap.size ≤ w'.heap.size
  block : ∀ k, lo ≤ k → k < hi → w'.heap[k]? = w.heap[k]?
theorem Btw.refl (lo hi : Nat) (w : World) : Btw lo hi w w := ⟨rfl, rfl, rfl, Nat.le_refl _, fun _ _ _ => rfl⟩
theorem Btw.trans {lo hi : Nat} {a b c : World} (h : Btw lo hi a b) (k : Btw lo hi b c) : Btw lo hi a c :=
  ⟨k.os.trans h.os, k.tape.trans h.tape, k.output.trans h.output, Nat.le_trans h.size k.size, fun i h1 h2 => (k.block i h1 h2).trans (h.block i h1 h2)⟩
theorem btw_of {lo hi B : Nat} {w w' : World} (h : Below B w w') (hB : hi ≤ B) : Btw lo hi w w' := ⟨h.os, h.tape, h.output, h.size, fun k _ h2 => h.block k (by omega)⟩
theorem btw_cell {lo hi : Nat} {w w' : World} (h : Btw lo hi w w') {p : Addr} (h1 : lo ≤ p.block) (h2 : p.block < hi) : w'.cell? p = w.cell? p := World.cell?_of_block (h.block p.block h1 h2)
theorem btw_set {lo hi b q : Nat} (w : World) (v : Value) (h : b < lo) : Btw lo hi w (w.setCell ⟨b, q, none⟩ v) :=
  ⟨rfl, rfl, rfl, (KeepsOthers.setCell w ⟨b, q, none⟩ v).size, fun k h1 _ => Below.heap_setCell _ _ _ k (fun e => by have : b = k := e.symm; omega)⟩
theorem btw_b {lo hi : Nat} {w : World} (hn : hi ≤ w.heap.size) (W : World) (l : Nat) (o o' : Obj) (hl : w.heap.size ≤ l) (_ : W.heap[l]? = some o) (_ : o.isCells = false) (_ : o.isWalk = false) : Btw lo hi W (W.putObj l o') := by
  have g := grownBy_putObj' W l o'
  refine ⟨g.os, g.tape, g.output, g.size, fun k _ h2 => ?_⟩
  exact World.putObj_heap_other (by omega)

/-- the iterator, and what tells its numbers, where that alone is kept -/
def SeqB (g : Nat) (lb : Array Value) (n : Nat) (R : Nat → Nat → Prop) (lo n₀ : Nat) (w : World) : Prop :=
  SeqStopsK Fence.wide 9 Tryd.prog g lb (fun x : Pt n R => #[Value.int .i64 (x.1.1 : Int), Value.float .f32 x.1.2]) (Btw lo n₀) (fun xs => xs.map (fun x => x.1.1) = List.range n) (fun _ => True) n w
def TellsB (g : Nat) (lb : Array Value) (n : Nat) (R : Nat → Nat → Prop) (lo n₀ : Nat) (w : World) : Prop :=
  ∀ j, j < n → ∀ W, Btw lo n₀ w W → Calls Tryd.prog g (#[.int .i64 (j : Int)] ++ lb) W fun e W' => (∃ v, e = .returned (.float .f32 v) ∧ R j v) ∧ Below W.heap.size W W'

set_option maxRecDepth 100000 in
set_option maxHeartbeats 2000000 in
/-- the iterator itself -/
theorem inOrderB_in (n : Nat) (hn : n ≤ 64) (R : Nat → Nat → Prop) (g : Nat) (lb : Array Value) (hg : ∀ (j : Int) v, (callFunc g (#[.int .i64 j] ++ lb)).run Tryd.prog v = .ok (.enter g (#[.int .i64 j] ++ lb)) v)
    (l Bn Bf lo n₀ : Nat) (J Jx : List (Pt n R) → World → Prop) (W : World) (hJ : AbidesFrom W.heap.size J)
    (hY : ∀ pre x W, J pre W → pre.length < n → YieldAt Fence.wide 8 Tryd.prog l #[.int .i64 (x.1.1 : Int), .float .f32 x.1.2] W fun e W' =>
      (e = .returned (.bool true) ∧ J (pre ++ [x]) W' ∧ Btw lo n₀ W W') ∨ (e = .returned (.bool false) ∧ Jx (pre ++ [x]) W'))
    (hT : TellsB g lb n R lo n₀ W) (hn₀ : n₀ ≤ W.heap.size)
    (hBn : W.cell? ⟨Bn, 0, none⟩ = some (.int .i64 n)) (hBf : W.cell? ⟨Bf, 0, none⟩ = some (.func (.func g) #[] lb)) (hbn : lo ≤ Bn ∧ Bn < n₀) (hbf : lo ≤ Bf ∧ Bf < n₀) (h0 : J [] W) :
    CallsIn Fence.wide 9 Tryd.prog 80 #[.func (.yield l) #[] #[], .pointer (some ⟨Bn, 0, none⟩), .pointer (some ⟨Bf, 0, none⟩)] W fun e W' => (∃ v, e = .returned v) ∧
      ((∃ ys, ys.map (fun x => x.1.1) = List.range n ∧ J ys W') ∨ (∃ pre, True ∧ Jx pre W')) := by
  refine callsIn_of_wp Tryd.func80 rfl trivial ?_ rfl
  simp only [Tryd.ntmps80, List.size_toArray, List.length_cons, List.length_nil, Nat.reduceAdd, Nat.reduceSub, Array.replicate_succ, Array.replicate_zero, List.push_toArray, List.append_toArray, List.nil_append, List.cons_append]
  gi_wp2
  gi_loopw [6] (fun i wr => ∃ (k : Nat) (pre : List (Pt n R)), k ≤ n ∧ i = .int .i64 k ∧ pre.map (fun x => x.1.1) = List.range k ∧ J pre wr ∧ Btw lo n₀ W wr)
    (fun i _ => n - (intOf i).toNat)
  case atStart => exact ⟨0, [], Nat.zero_le _, rfl, rfl, h0, Btw.refl _ _ _⟩
  case round =>
    obtain ⟨k, pre, hk, rfl, hpre, hJs, hB⟩ := hrel
    have hbn2 : wr.cell? ⟨Bn, 0, none⟩ = some (.int .i64 n) := (btw_cell hB (p := ⟨Bn, 0, none⟩) hbn.1 hbn.2).trans hBn
    have hbf2 : wr.cell? ⟨Bf, 0, none⟩ = some (.func (.func g) #[] lb) := (btw_cell hB (p := ⟨Bf, 0, none⟩) hbf.1 hbf.2).trans hBf
    by_cases hlt : k < n
    · have hdk : decide ((k : Int) < (n : Int)) = true := by simp; omega
      gi_wp2
      refine ⟨trivial, (callsIn_wide.2 (hT k hlt wr hB)).mono ?_⟩
      rintro e W1 ⟨⟨v, rfl, hv⟩, hb1⟩
      have hlen : pre.length = k := by have := congrArg List.length hpre; simpa using this
      obtain ⟨fn, tmps, assign, body, hy, hR⟩ := hY pre ⟨(k, v), hlt, hv⟩ W1 (hJ _ _ _ none hJs (below_grow hb1) (fun r h => by cases h)) (by omega)
      dsimp only at hy
      gi_wp2
      refine hR.mono ?_
      rintro e W3 (⟨rfl, hJ3, hk3⟩ | ⟨rfl, hJx3⟩)
      · gi_wp2
        go_roundw
        case rel => exact ⟨k + 1, _, by omega, by simp, by rw [List.map_append, hpre, List.range_succ]; rfl, hJ3, (hB.trans (btw_of hb1 (Nat.le_trans hn₀ hB.size))).trans hk3⟩
        case measure => simp [intOf]; omega
      · gi_wp2
        refine bodyPost_ret (results_none rfl _ _ _) rfl ?_
        exact ⟨⟨_, rfl⟩, .inr ⟨_, trivial, hJx3⟩⟩
    · obtain rfl : k = n := by omega
      gi_wp2
      go_end0
      exact ⟨⟨_, rfl⟩, .inl ⟨pre, hpre, hJs⟩⟩

/-- the iterator as it lies in memory -/
theorem inOrderB_seq (n : Nat) (hn : n ≤ 64) (R : Nat → Nat → Prop) (g : Nat) (lb : Array Value) (hg : ∀ (j : Int) v, (callFunc g (#[.int .i64 j] ++ lb)).run Tryd.prog v = .ok (.enter g (#[.int .i64 j] ++ lb)) v)
    (Bn Bf lo n₀ : Nat) (w : World) (hT : TellsB g lb n R lo n₀ w) (hn₀ : n₀ ≤ w.heap.size)
    (hBn : w.cell? ⟨Bn, 0, none⟩ = some (.int .i64 n)) (hBf : w.cell? ⟨Bf, 0, none⟩ = some (.func (.func g) #[] lb)) (hbn : lo ≤ Bn ∧ Bn < n₀) (hbf : lo ≤ Bf ∧ Bf < n₀) :
    SeqB 80 #[.pointer (some ⟨Bn, 0, none⟩), .pointer (some ⟨Bf, 0, none⟩)] n R lo n₀ w :=
  fun l J Jx W hW hJ _ hY h0 =>
    inOrderB_in n hn R g lb hg l Bn Bf lo n₀ J Jx W hJ hY (fun j hj V hV => hT j hj V ((btw_of hW hn₀).trans hV)) (Nat.le_trans hn₀ hW.size)
      ((hW.cell (p := ⟨Bn, 0, none⟩) (by simp; omega)).trans hBn) ((hW.cell (p := ⟨Bf, 0, none⟩) (by simp; omega)).trans hBf) hbn hbf h0


set_option maxRecDepth 100000 in
set_option maxHeartbeats 400000 in
theorem inOrderB_any (n : Nat) (hn : n ≤ 64) (R : Nat → Nat → Prop) (g : Nat) (lb : Array Value) (hg : ∀ (j : Int) v, (callFunc g (#[.int .i64 j] ++ lb)).run Tryd.prog v = .ok (.enter g (#[.int .i64 j] ++ lb)) v)
    (lo : Nat) (w : World) (hlo : lo ≤ w.heap.size) (hT : TellsB g lb n R lo w.heap.size w) : Calls Tryd.prog 65 #[.int .i64 n, .func (.func g) #[] lb] w fun e w' =>
      (∃ lb', e = .returned (.func (.func 80) #[] lb') ∧ SeqB 80 lb' n R lo w'.heap.size w') ∧ Below w.heap.size w w' := by
  have HT := Lib.hid hT
  clear hT
  go_enter Tryd.func65, Tryd.ntmps65
  go_wp2
  go_ret
  have B1 : Below w.heap.size w ((w.alloc (.cells #[.int .i64 n] 2)).alloc (.cells #[.func (.func g) #[] lb] 79)) := ((Below.refl _ w).alloc (Nat.le_refl _) _).alloc (by simp) _
  refine ⟨⟨_, rfl, ?_⟩, B1⟩
  have bN := Boxed.new w 2 (.int .i64 n)
  have bF := Boxed.new (w.alloc (.cells #[.int .i64 n] 2)) 79 (.func (.func g) #[] lb)
  rw [World.size_alloc] at bF
  refine inOrderB_seq n hn R g lb hg w.heap.size (w.heap.size + 1) lo _ _ (fun j hj V hV => HT.out j hj V ((btw_of B1 (Nat.le_refl _)).trans ⟨hV.os, hV.tape, hV.output, hV.size, fun k h1 h2 => hV.block k h1 (by simp; omega)⟩)) (Nat.le_refl _) (bN.alloc _).cell bF.cell ⟨hlo, by simp; omega⟩ ⟨by omega, by simp⟩

set_option maxRecDepth 100000 in
set_option maxHeartbeats 800000 in
theorem walshB_any (n k : Nat) (hn : n ≤ 64) (hk : k < 64) (w : World) : Calls Tryd.prog 38 #[.int .i64 (n : Int), .int .i64 (k : Int)] w fun e w' =>
      (∃ lb, e = .returned (.func (.func 80) #[] lb) ∧ SeqB 80 lb n (fun j v => v = wal k j) w.heap.size w'.heap.size w') ∧ Below w.heap.size w w' := by
  have B1 : Below w.heap.size w (w.alloc (.cells #[.int .i64 (k : Int)] 2)) := (Below.refl _ w).alloc (Nat.le_refl _) _
  have bK := (Boxed.new w 2 (.int .i64 (k : Int))).cell
  have HI := Lib.hid (inOrderB_any n hn (fun j v => v = wal k j) 66 #[.pointer (some ⟨w.heap.size, 0, none⟩)] (fun j v => walsh_enters _ v) w.heap.size (w.alloc (.cells #[.int .i64 (k : Int)] 2)) (by simp) (fun j hj W hW => by
    refine (walshAt_any k j w.heap.size hk (by omega) W ((btw_cell hW (p := ⟨w.heap.size, 0, none⟩) (Nat.le_refl _) (by simp)).trans bK)).mono ?_
    rintro e W' ⟨rfl, rfl⟩
    exact ⟨⟨_, rfl, rfl⟩, Below.refl _ _⟩))
  have HB := Lib.hid B1
  clear bK B1
  have hmf : ∀ (fn : Fn) (first cap : Array Value) (w : World), (Instr.makeFunc fn first cap).run Tryd.prog w = .ok (.func fn first cap) w := fun _ _ _ _ => rfl
  go_enter Tryd.func38, Tryd.ntmps38
  go_wp2_with fail
  refine HI.out.mono ?_
  rintro e w1 ⟨⟨lb, rfl, hS⟩, hb⟩
  have HS := Lib.hid hS
  have HB2 := Lib.hid (HB.out.trans (hb.mono (by simp)))
  clear hS hb
  go_wp2_with fail
  go_ret
  exact ⟨⟨lb, rfl, HS.out⟩, HB2.out⟩

end Go.Proofs.YtclflnpbiiimiaaDoor
