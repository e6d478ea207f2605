/- The list of what an iterator tells. Condition: at most 64 places. The program's code of Walsh: the iterator, the list, the function. Condition: none. -/
import Derived.Test.YtclflnpbiiimiaaDoorM19
import Derived.RangeFuncNested
import Derived.Shelf.Abstract
import Derived.Test.YtclflnpbiiimiaaDoorHq
import Derived.Test.YtclflnpbiiimiaaDoorM2
namespace Go.Proofs.YtclflnpbiiimiaaDoor
open Go Go.RowKit Go.Shelf
attribute [local go_sem] Oper.semAt_some

theorem own_turn {B : Nat} {v : Value} {L : List Nat} {W W' : World} {row : Option Nat} (h : OwnF B v L W) (hg : W.grownBy W' row) (hr : ∀ r, row = some r → ∃ o : Obj, W.heap[r]? = some o ∧ o.isCells = false) : OwnF B v L W' := by
  refine World.ownsRow.kept h hg ?_
  rcases h.2 with ⟨rfl, _⟩ | ⟨g, cap, cur, rfl, _, hgb, _⟩
  · exact .inl rfl
  · refine .inr fun e' => ?_
    obtain ⟨o, ho, hc⟩ := hr g (by simpa [Value.ownBlock] using e'.symm)
    rw [hgb] at ho; cases ho; cases hc
theorem box_turn {W W' : World} {B : Nat} {t : TypeId} {v : Value} {row : Option Nat} (h : Boxed W B t v) (hg : W.grownBy W' row) (hr : ∀ r, row = some r → ∃ o : Obj, W.heap[r]? = some o ∧ o.isCells = false) : Boxed W' B t v := by
  refine h.kept hg fun e' => ?_
  obtain ⟨o, ho, hc⟩ := hr B e'.symm
  rw [show W.heap[B]? = _ from h] at ho; cases ho; cases hc

theorem grown_set (W : World) (b q : Nat) (v : Value) : W.grownBy (W.setCell ⟨b, q, none⟩ v) (some b) :=
  ⟨rfl, rfl, rfl, (KeepsWalks.setCell W _ v).size, fun k _ hk => Below.heap_setCell _ _ _ k (fun e => hk (by rw [e]))⟩

/-- the list behind what has come -/
def putAll {n : Nat} {R : Nat → Nat → Prop} (pre : List (Pt n R)) : List Nat := pre.foldl (fun L x => L.set x.1.1 x.1.2) (List.replicate n 0)
theorem putAll_snoc {n : Nat} {R : Nat → Nat → Prop} (pre : List (Pt n R)) (x : Pt n R) : putAll (pre ++ [x]) = (putAll pre).set x.1.1 x.1.2 := by simp [putAll]
theorem putAll_len {n : Nat} {R : Nat → Nat → Prop} (pre : List (Pt n R)) : (putAll pre).length = n := by
  unfold putAll
  have : ∀ (L : List Nat), (pre.foldl (fun L x => L.set x.1.1 x.1.2) L).length = L.length := by
    induction pre with
    | nil => intro L; rfl
    | cons x xs ih => intro L; rw [List.foldl_cons, ih, List.length_set]
  rw [this, List.length_replicate]
theorem putAll_get {n : Nat} {R : Nat → Nat → Prop} : ∀ (k : Nat) (pre : List (Pt n R)), k ≤ n → pre.map (fun x => x.1.1) = List.range k → ∀ j, j < k → R j ((putAll pre).getD j 0)
  | 0, _, _, _, j, hj => by omega
  | k + 1, pre, hk, h, j, hj => by
    have hl : pre.length = k + 1 := by have := congrArg List.length h; simpa using this
    obtain ⟨ini, x, rfl⟩ : ∃ ini x, pre = ini ++ [x] := by
      rcases List.eq_nil_or_concat pre with rfl | ⟨ini, x, h⟩
      · simp at hl
      · exact ⟨ini, x, by rw [h]; simp⟩
    rw [List.map_append, List.range_succ] at h
    obtain ⟨h1, h2⟩ := List.append_inj' h rfl
    have hx : x.1.1 = k := by simpa using h2
    rw [putAll_snoc, List.getD_eq_getElem?_getD, List.getElem?_set, putAll_len]
    by_cases e : x.1.1 = j
    · rw [if_pos e, if_pos (by omega)]
      rw [← e]
      exact x.2.2
    · rw [if_neg e]
      have := putAll_get k ini (by omega) h1 j (by omega)
      rwa [List.getD_eq_getElem?_getD] at this

set_option maxRecDepth 100000 in
set_option maxHeartbeats 2000000 in
theorem numbersOf_any (n : Nat) (hn : n ≤ 64) (R : Nat → Nat → Prop) (lb : Array Value) (w : World) (hS : Seq 80 lb n R w.heap.size w) :
    Calls Tryd.prog 37 #[.int .i64 n, .func (.func 80) #[] lb] w fun e w' =>
      ∃ v L, e = .returned v ∧ OwnF w.heap.size v L w' ∧ L.length = n ∧ (∀ j, j < n → R j (L.getD j 0)) ∧ Below w.heap.size w w' := by
  obtain ⟨i0, hi, hz0, hz1, hz2⟩ := info_parts infoF
  have HS := Lib.hid hS
  clear hS
  refine (callsIn_wide (n := 10)).1 ?_
  refine callsIn_of_wp_marks Tryd.func37 rfl trivial ?_ rfl
  simp only [Tryd.ntmps37, List.size_toArray, List.length_cons, List.length_nil, Nat.reduceAdd, Nat.reduceSub, Array.replicate_succ, Array.replicate_zero, List.push_toArray, List.append_toArray, List.nil_append, List.cons_append]
  refine wpIn_wide.2 ?_
  go_wp2_with (refine wpList_make_full _ rfl _ _ 26 rfl w.heap.size 38 i0 (.float .f32 0) 1 Tryd.underlying26 hi hz0 hz1 .i64 .i64 n n n rfl rfl rfl rfl ?b2 ?b3 (Nat.le_refl _) ?_)
  case b2 => rw [hz2]; omega
  case b3 => unfold maxLen; omega
  intro w1 hown hgrow
  have O1 : Hid (OwnF w.heap.size (.slice (some ⟨w.heap.size, 0, none⟩) n n) (List.replicate n 0) w1) := by
    refine Lib.hid ?_
    have e : (madeCells #[Value.float .f32 0] n).toList = (List.replicate n 0).map (Value.float .f32) := by
      rw [toList_madeCells_one]
      simp
    rw [e] at hown
    unfold OwnF
    rw [List.length_replicate]
    exact hown
  have hB1 : Below w.heap.size w w1 := (Below.refl _ _).grown hgrow (Nat.le_refl _) (fun k hk => by cases hk)
  have hsz := hB1.size
  clear hown hgrow hi hz0 hz1 hz2
  go_wp2_with fail
  have hBx := Boxed.new w1 26 (.slice (some ⟨w.heap.size, 0, none⟩) n n)
  have hB2 : Below w.heap.size w (w1.alloc (.cells #[.slice (some ⟨w.heap.size, 0, none⟩) n n] 26)) := hB1.alloc hsz _
  have O2 : Hid (OwnF w.heap.size (.slice (some ⟨w.heap.size, 0, none⟩) n n) (List.replicate n 0) (w1.alloc (.cells #[.slice (some ⟨w.heap.size, 0, none⟩) n n] 26))) := Lib.hid (O1.out.alloc _)
  have hlt2 := hBx.lt
  generalize w1.alloc (.cells #[.slice (some ⟨w.heap.size, 0, none⟩) n n] 26) = w2 at *
  generalize w1.heap.size = bx at *
  clear O1 hB1
  refine (wpIn_wide (n := 10)).1 ?_
  refine wpIn_rangeFunc_ownG rfl (by omega) (gf := 80) (lb := lb) rfl trivial (enters_of Tryd.func80 (by kernel_rfl) rfl)
    HS.out belowK_t (belowK_b hB2.size) hB2 (fun _ => rfl)
    (fun pre W => OwnF w.heap.size (.slice (some ⟨w.heap.size, 0, none⟩) n n) (putAll pre) W ∧ Boxed W bx 26 (.slice (some ⟨w.heap.size, 0, none⟩) n n) ∧ Below w.heap.size w W)
    (fun _ _ _ => False)
    (fun pre A B row hs hg hr => ⟨own_turn hs.1 hg (fun r e => (hr r e).2), box_turn hs.2.1 hg (fun r e => (hr r e).2), hs.2.2.grown hg hs.2.2.size (fun k e => Nat.le_trans hB2.size (hr k e).1)⟩)
    (fun _ _ _ _ _ hs _ _ => hs)
    ⟨O2.out, hBx, hB2⟩
    (fun x => { tmps := #[.int .i64 n, .func (.func 80) #[] lb, undef, undef, .slice none 0 0, .pointer (some ⟨bx, 0, none⟩), .int .i64 (x.1.1 : Int), .float .f32 x.1.2, .int .i64 n, .slice (some ⟨w.heap.size, 0, none⟩) n n, .func (.func 80) #[] lb, .int .i64 (x.1.1 : Int), .float .f32 x.1.2, undef, undef, undef, undef, undef], defers := [] }) ?assign ?body ?done ?stop
  case assign =>
    intro l x W K hK
    gi_wp2
    exact hK
  case body =>
    rintro l pre x W ⟨hO, hb, hB⟩ _
    have hc := hb.cell
    have hf := hb.frozen
    have hx := x.2.1
    have hpl := putAll_len pre
    have hne : bx ≠ w.heap.size := fun e => hb.not_row (by decide) hO (by rw [e]; rfl)
    have o3 : OwnF w.heap.size (.slice (some ⟨w.heap.size, 0, none⟩) (putAll pre).length n) (putAll pre) W := by rw [hpl]; exact hO
    have c1 := o3.cell x.1.1 (by omega)
    have f1 := o3.free x.1.1
    have O4 := o3.stored x.1.1 x.1.2
    rw [hpl] at O4
    have HO4 := Lib.hid O4
    have HB := Lib.hid hB
    clear O4 o3 hO hB
    gi_wp2
    exact ⟨(KeepsOthers.setCell _ _ _).from _, (Below.refl w.heap.size W).setCell (p := ⟨w.heap.size, x.1.1, none⟩) (Nat.le_refl _) _, by rw [putAll_snoc]; exact HO4.out, hb.kept (grown_set _ _ _ _) (by simpa using hne), HB.out.setCell (p := ⟨w.heap.size, x.1.1, none⟩) (Nat.le_refl _) _⟩
  case done =>
    rintro D xs W hD hxs ⟨hO, hb, hB⟩ hK
    have hc := hb.cell
    have HO := Lib.hid hO
    have HB := Lib.hid hB
    clear hO hB
    go_wp2
    refine ⟨by simp, .inl ⟨_, _, rfl, run_takeDeferred hK, ?_⟩⟩
    refine ⟨_, results_tmp (t := 4) rfl _ _ _, ?_⟩
    exact ⟨.slice (some ⟨w.heap.size, 0, none⟩) n n, putAll xs, rfl, ownsRow_putObj HO.out _ hK rfl, putAll_len xs, fun j hj => putAll_get n xs (Nat.le_refl _) hxs j hj, HB.out.trans (belowK_b (w := w) (Nat.le_refl _) W D _ _ (Nat.le_trans hB2.size hD) hK rfl rfl)⟩
  case stop =>
    rintro D c pre W _ _ h _
    exact h.elim

end Go.Proofs.YtclflnpbiiimiaaDoor

namespace Go.Proofs.YtclflnpbiiimiaaDoor
open Go Go.RowKit Go.Shelf Ieee

theorem list_of {L : List Nat} {n : Nat} {F : Nat → Nat} (hl : L.length = n) (h : ∀ j, j < n → L.getD j 0 = F j) : L = (List.range n).map F := by
  apply List.ext_getElem?
  intro j
  by_cases hj : j < n
  · have := h j hj
    rw [List.getD_eq_getElem?_getD] at this
    rw [List.getElem?_map, List.getElem?_range hj]
    rw [List.getElem?_eq_getElem (by omega)] at this ⊢
    simpa using this
  · rw [List.getElem?_eq_none (by omega), List.getElem?_eq_none (by simp; omega)]

theorem codeLen_any (n : Int) (w : World) : Calls Tryd.prog 35 #[.int .i64 n] w fun e w' => e = .returned (.bool (lenI n)) ∧ w = w' := by
  have hs : (decide (n ≤ 64) && pow64 n) = lenI n := by
    rcases Int.lt_or_le 64 n with h | h
    · rw [show decide (n ≤ 64) = false by simp; omega, Bool.false_and]
      exact (pow64_not n (.inr h)).symm
    · rw [show decide (n ≤ 64) = true by simp; omega, Bool.true_and]
      rfl
  have HC := powOf_any n 64 (by omega) w
  rw [hs] at HC
  go_enter Tryd.func35, Tryd.ntmps35
  go_wp2_with fail
  refine HC.mono ?_
  rintro e w' ⟨rfl, rfl⟩
  go_wp2
  go_ret
  exact ⟨rfl, rfl⟩

/-- how many digits are 1 -/
def pop (q : Nat) : Nat := q % 2 + q / 2 % 2 + q / 4 % 2 + q / 8 % 2 + q / 16 % 2 + q / 32 % 2
theorem ones_any (q : Nat) (h : q < 64) (w : World) : Calls Tryd.prog 68 #[.int .u64 (q : Int)] w fun e w' => e = .returned (.int .i64 (pop q : Nat)) ∧ w = w' :=
  match q, h with
  | 0, _ => calls_of (fun _ => false) (known_none _) 99 (fun cs => by kernel_rfl)
  | 1, _ => calls_of (fun _ => false) (known_none _) 99 (fun cs => by kernel_rfl)
  | 2, _ => calls_of (fun _ => false) (known_none _) 99 (fun cs => by kernel_rfl)
  | 3, _ => calls_of (fun _ => false) (known_none _) 99 (fun cs => by kernel_rfl)
  | 4, _ => calls_of (fun _ => false) (known_none _) 99 (fun cs => by kernel_rfl)
  | 5, _ => calls_of (fun _ => false) (known_none _) 99 (fun cs => by kernel_rfl)
  | 6, _ => calls_of (fun _ => false) (known_none _) 99 (fun cs => by kernel_rfl)
  | 7, _ => calls_of (fun _ => false) (known_none _) 99 (fun cs => by kernel_rfl)
  | 8, _ => calls_of (fun _ => false) (known_none _) 99 (fun cs => by kernel_rfl)
  | 9, _ => calls_of (fun _ => false) (known_none _) 99 (fun cs => by kernel_rfl)
  | 10, _ => calls_of (fun _ => false) (known_none _) 99 (fun cs => by kernel_rfl)
  | 11, _ => calls_of (fun _ => false) (known_none _) 99 (fun cs => by kernel_rfl)
  | 12, _ => calls_of (fun _ => false) (known_none _) 99 (fun cs => by kernel_rfl)
  | 13, _ => calls_of (fun _ => false) (known_none _) 99 (fun cs => by kernel_rfl)
  | 14, _ => calls_of (fun _ => false) (known_none _) 99 (fun cs => by kernel_rfl)
  | 15, _ => calls_of (fun _ => false) (known_none _) 99 (fun cs => by kernel_rfl)
  | 16, _ => calls_of (fun _ => false) (known_none _) 99 (fun cs => by kernel_rfl)
  | 17, _ => calls_of (fun _ => false) (known_none _) 99 (fun cs => by kernel_rfl)
  | 18, _ => calls_of (fun _ => false) (known_none _) 99 (fun cs => by kernel_rfl)
  | 19, _ => calls_of (fun _ => false) (known_none _) 99 (fun cs => by kernel_rfl)
  | 20, _ => calls_of (fun _ => false) (known_none _) 99 (fun cs => by kernel_rfl)
  | 21, _ => calls_of (fun _ => false) (known_none _) 99 (fun cs => by kernel_rfl)
  | 22, _ => calls_of (fun _ => false) (known_none _) 99 (fun cs => by kernel_rfl)
  | 23, _ => calls_of (fun _ => false) (known_none _) 99 (fun cs => by kernel_rfl)
  | 24, _ => calls_of (fun _ => false) (known_none _) 99 (fun cs => by kernel_rfl)
  | 25, _ => calls_of (fun _ => false) (known_none _) 99 (fun cs => by kernel_rfl)
  | 26, _ => calls_of (fun _ => false) (known_none _) 99 (fun cs => by kernel_rfl)
  | 27, _ => calls_of (fun _ => false) (known_none _) 99 (fun cs => by kernel_rfl)
  | 28, _ => calls_of (fun _ => false) (known_none _) 99 (fun cs => by kernel_rfl)
  | 29, _ => calls_of (fun _ => false) (known_none _) 99 (fun cs => by kernel_rfl)
  | 30, _ => calls_of (fun _ => false) (known_none _) 99 (fun cs => by kernel_rfl)
  | 31, _ => calls_of (fun _ => false) (known_none _) 99 (fun cs => by kernel_rfl)
  | 32, _ => calls_of (fun _ => false) (known_none _) 99 (fun cs => by kernel_rfl)
  | 33, _ => calls_of (fun _ => false) (known_none _) 99 (fun cs => by kernel_rfl)
  | 34, _ => calls_of (fun _ => false) (known_none _) 99 (fun cs => by kernel_rfl)
  | 35, _ => calls_of (fun _ => false) (known_none _) 99 (fun cs => by kernel_rfl)
  | 36, _ => calls_of (fun _ => false) (known_none _) 99 (fun cs => by kernel_rfl)
  | 37, _ => calls_of (fun _ => false) (known_none _) 99 (fun cs => by kernel_rfl)
  | 38, _ => calls_of (fun _ => false) (known_none _) 99 (fun cs => by kernel_rfl)
  | 39, _ => calls_of (fun _ => false) (known_none _) 99 (fun cs => by kernel_rfl)
  | 40, _ => calls_of (fun _ => false) (known_none _) 99 (fun cs => by kernel_rfl)
  | 41, _ => calls_of (fun _ => false) (known_none _) 99 (fun cs => by kernel_rfl)
  | 42, _ => calls_of (fun _ => false) (known_none _) 99 (fun cs => by kernel_rfl)
  | 43, _ => calls_of (fun _ => false) (known_none _) 99 (fun cs => by kernel_rfl)
  | 44, _ => calls_of (fun _ => false) (known_none _) 99 (fun cs => by kernel_rfl)
  | 45, _ => calls_of (fun _ => false) (known_none _) 99 (fun cs => by kernel_rfl)
  | 46, _ => calls_of (fun _ => false) (known_none _) 99 (fun cs => by kernel_rfl)
  | 47, _ => calls_of (fun _ => false) (known_none _) 99 (fun cs => by kernel_rfl)
  | 48, _ => calls_of (fun _ => false) (known_none _) 99 (fun cs => by kernel_rfl)
  | 49, _ => calls_of (fun _ => false) (known_none _) 99 (fun cs => by kernel_rfl)
  | 50, _ => calls_of (fun _ => false) (known_none _) 99 (fun cs => by kernel_rfl)
  | 51, _ => calls_of (fun _ => false) (known_none _) 99 (fun cs => by kernel_rfl)
  | 52, _ => calls_of (fun _ => false) (known_none _) 99 (fun cs => by kernel_rfl)
  | 53, _ => calls_of (fun _ => false) (known_none _) 99 (fun cs => by kernel_rfl)
  | 54, _ => calls_of (fun _ => false) (known_none _) 99 (fun cs => by kernel_rfl)
  | 55, _ => calls_of (fun _ => false) (known_none _) 99 (fun cs => by kernel_rfl)
  | 56, _ => calls_of (fun _ => false) (known_none _) 99 (fun cs => by kernel_rfl)
  | 57, _ => calls_of (fun _ => false) (known_none _) 99 (fun cs => by kernel_rfl)
  | 58, _ => calls_of (fun _ => false) (known_none _) 99 (fun cs => by kernel_rfl)
  | 59, _ => calls_of (fun _ => false) (known_none _) 99 (fun cs => by kernel_rfl)
  | 60, _ => calls_of (fun _ => false) (known_none _) 99 (fun cs => by kernel_rfl)
  | 61, _ => calls_of (fun _ => false) (known_none _) 99 (fun cs => by kernel_rfl)
  | 62, _ => calls_of (fun _ => false) (known_none _) 99 (fun cs => by kernel_rfl)
  | 63, _ => calls_of (fun _ => false) (known_none _) 99 (fun cs => by kernel_rfl)
  | n + 64, h => absurd h (by omega)
theorem par_step (q : Nat) : par q = xor (q % 2 == 1) (par (q / 2)) := by
  rcases Nat.eq_zero_or_pos q with rfl | h
  · rw [par_zero]; rfl
  · exact par_pos q h
theorem bits_par : ∀ a b c d e f : Fin 2, ((a.val + b.val + c.val + d.val + e.val + f.val) % 2 == 0) = !(xor (a.val == 1) (xor (b.val == 1) (xor (c.val == 1) (xor (d.val == 1) (xor (e.val == 1) (xor (f.val == 1) false)))))) := by decide +kernel
theorem pop_par (q : Nat) (h : q < 64) : (pop q % 2 == 0) = !par q := by
  rw [par_step q, par_step (q / 2), par_step (q / 2 / 2), par_step (q / 2 / 2 / 2), par_step (q / 2 / 2 / 2 / 2), par_step (q / 2 / 2 / 2 / 2 / 2)]
  simp only [Nat.div_div_eq_div_mul, Nat.reduceMul]
  rw [show q / 64 = 0 by omega, par_zero]
  exact bits_par ⟨q % 2, by omega⟩ ⟨q / 2 % 2, by omega⟩ ⟨q / 4 % 2, by omega⟩ ⟨q / 8 % 2, by omega⟩ ⟨q / 16 % 2, by omega⟩ ⟨q / 32 % 2, by omega⟩

end Go.Proofs.YtclflnpbiiimiaaDoor
