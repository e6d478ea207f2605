/- Plain facts on waves that are filled cell by cell, and the model's wave without cells. Condition: none. When two waves are equal by Go's own word. Condition: 64 complex numbers each. Heights as whole numbers: what it is to wrap one, the wrapped difference of two, which lists are height maps. Condition: none. -/
import Derived.Test.YtclflnpbiiimiaaDoorM4
import Derived.Laws.ResultCell
import Derived.Test.YtclflnpbiiimiaaDoorM3
import Derived.Laws.StructEq
import Derived.WalkKit
import Derived.Test.YtclflnpbiiimiaaDoorM2
namespace Go.Proofs.YtclflnpbiiimiaaDoor
open Go Go.RowKit

/-- 64 complex zeros -/
def zc : Array Value := Array.replicate 64 (.complex .f32 0 0)
theorem info37' : (Tryd.prog.info? 35).map (fun i => (i.zero, i.size)) = some (some (.agg (pic 0 zc)), 65) := info37
theorem zc_size : zc.size = 64 := by simp [zc]
theorem results_row_tmp {P : Program} {fn : Func} {p u : Tmp} {ty : TypeId} (h : fn.results = #[.cell p ty, .tmp u]) (tmps : Array Value) (w : World) (g : Nat) (t : TypeId) (cs : Array Value) (fr : Nat × Nat) (d : TypeDesc)
    (hp : tmps.getD p undef = .pointer (some ⟨g, 0, none⟩)) (hg : w.heap[g]? = some (.cells cs t fr))
    (hu : P.underlying ty = some d) (hd : (match d with | .struct _ | .array _ _ => true | _ => false) = true) (hi : (P.info? ty).map (·.size) = some cs.size) :
    (results fn tmps).run P w = .ok (.tuple #[.agg cs, tmps.getD u undef]) w := by
  have hp' : tmps[p]?.getD undef = .pointer (some ⟨g, 0, none⟩) := by simpa using hp
  rw [results_cell_tmp h]
  simp [asAddr, hp', run_loadVar_row w g t ty cs fr d hg hu hd hi]
theorem pic_ne : ¬ pic 0 zc = #[] := fun e => by
  have := congrArg Array.size e
  rw [pic_size 0 zc zc_size] at this
  simp at this
/-- a whole row is loaded, behind a guard that lets it by -/
theorem wpList_load_row_g {P : Program} {ops : Array Oper} {rest : List Oper} {o : Oper} {a : Act} {w : World} {Q : Exit → Act → World → Prop} (hgd : Region.wanted o (yielded ops a.tmps) = true) (ty : TypeId) (x : Operand) (ho : o.op = .load ty x)
    (g : Nat) (hx : a.eval x = .pointer (some ⟨g, 0, none⟩)) (t : TypeId) (cs : Array Value) (fr : Nat × Nat) (d : TypeDesc) (hg : w.heap[g]? = some (.cells cs t fr))
    (hu : P.underlying ty = some d) (hd : (match d with | .struct _ | .array _ _ => true | _ => false) = true) (hi : (P.info? ty).map (·.size) = some cs.size)
    (h : wpList P ops Q rest (a.put o.dst (.agg cs)) w) : wpList P ops Q (o :: rest) a w :=
  wpList_step fun _ hK => by rw [if_pos hgd]; exact wp_load_row ty x ho g hx t cs fr d hg hu hd hi (hK _ _ h)
/-- a wave of 64 finite complex numbers -/
def FinW (s : Int) (D : Array Value) : Prop := D.size = 65 ∧ D[0]? = some (.int .i64 s) ∧ ∀ k, k < 64 → ∃ x y, D[1 + k]? = some (.complex .f32 x y) ∧ (fin x && fin y) = true
theorem finW_one {s : Int} {D : Array Value} (h : FinW s D) : D.all (·.oneCell') = true := by
  rw [Array.all_eq_true_iff_forall_mem]
  intro v hv
  obtain ⟨i, hi, he⟩ := Array.mem_iff_getElem.1 hv
  have hg := Array.getElem?_eq_getElem hi
  rw [he] at hg
  cases i with
  | zero => rw [h.2.1] at hg; cases hg; rfl
  | succ i =>
    rw [h.1] at hi
    obtain ⟨x, y, hz, _⟩ := h.2.2 i (by omega)
    rw [Nat.add_comm, hg] at hz
    cases hz
    rfl
/-- the first k cells by a rule, the others 0 -/
def gf (F : Nat → Nat × Nat) (k : Nat) : Array Value := Array.ofFn (n := 64) fun i => if i.val < k then .complex .f32 (F i.val).1 (F i.val).2 else .complex .f32 0 0
theorem gf_get (F : Nat → Nat × Nat) (k i : Nat) : (gf F k)[i]? = if i < 64 then some (if i < k then .complex .f32 (F i).1 (F i).2 else .complex .f32 0 0) else none := by
  simp only [gf, Array.getElem?_ofFn]
  by_cases h : i < 64 <;> simp [h]
theorem gf_size (F : Nat → Nat × Nat) (k : Nat) : (gf F k).size = 64 := by simp [gf]
theorem gf_zero (F : Nat → Nat × Nat) : gf F 0 = zc := by
  apply Array.ext_getElem?
  intro i
  rw [gf_get]
  simp only [zc, Array.getElem?_replicate]
  split <;> simp
theorem gf_set (s : Int) (F : Nat → Nat × Nat) (k : Nat) (hk : k < 64) : (pic s (gf F k)).setIfInBounds (1 + k) (.complex .f32 (F k).1 (F k).2) = pic s (gf F (k + 1)) := by
  apply Array.ext_getElem?
  intro i
  rw [Array.getElem?_setIfInBounds, pic_size _ _ (gf_size F k)]
  cases i with
  | zero => rw [if_neg (by omega), pic_zero, pic_zero]
  | succ i =>
    rw [pic_succ, pic_succ, gf_get, gf_get]
    by_cases h1 : 1 + k = i + 1
    · obtain rfl : k = i := by omega
      simp [hk, show 1 + k = k + 1 by omega]
    · rw [if_neg h1]
      by_cases h2 : i < k
      · simp [h2, show i < k + 1 by omega]
      · simp [h2, show ¬ i < k + 1 by omega]
theorem gf_old (s : Int) (F : Nat → Nat × Nat) (k : Nat) (hk : k < 64) : (pic s (gf F k))[1 + k]? = some (.complex .f32 0 0) := by
  rw [Nat.add_comm, pic_succ, gf_get, if_pos hk, if_neg (by omega)]
theorem gf_fin (s : Int) (F : Nat → Nat × Nat) (hF : ∀ i, (fin (F i).1 && fin (F i).2) = true) (k : Nat) : FinW s (pic s (gf F k)) := by
  refine ⟨pic_size _ _ (gf_size _ _), pic_zero _ _, fun i hi => ?_⟩
  rw [Nat.add_comm, pic_succ, gf_get, if_pos hi]
  by_cases h : i < k
  · exact ⟨_, _, by rw [if_pos h], hF i⟩
  · exact ⟨0, 0, by rw [if_neg h], by decide⟩
theorem cell_al2 (w : World) (A B : Obj) (n : Nat) (p : Addr) (v : Value) (h : w.cell? p = some v) : (((w.alloc A).alloc B).drewN n).cell? p = some v := by
  have hb := World.block_lt_of_cell? w _ h
  rw [World.cell?_drewN, World.cell?_alloc_lt _ _ _ (by rw [size_al]; omega), World.cell?_alloc_lt _ _ _ hb, h]
theorem zc_one (s : Int) : (pic s zc).all (·.oneCell') = true := by rw [← gf_zero (fun _ => (0, 0))]; exact finW_one (gf_fin s _ (fun _ => by decide) 0)
theorem setRow_al3 (w : World) (A B : Obj) (Z cs : Array Value) (t : TypeId) : (((w.alloc A).alloc B).alloc (.cells Z t)).setRow (w.heap.size + 1 + 1) cs = ((w.alloc A).alloc B).alloc (.cells cs t) := by
  have h := World.setRow_alloc_new ((w.alloc A).alloc B) Z cs t
  rwa [size_al, size_al] at h
theorem setCell_al3 (w : World) (A B : Obj) (C : Array Value) (t : TypeId) (n j : Nat) (v : Value) :
    ((((w.alloc A).alloc B).alloc (.cells C t)).drewN n).setCell ⟨w.heap.size + 1 + 1, j, none⟩ v = (((w.alloc A).alloc B).alloc (.cells (C.setIfInBounds j v) t)).drewN n := by
  have h := World.setCell_alloc_at (w := (w.alloc A).alloc B) C t (w.heap.size + 1 + 1) j v (by rw [size_al, size_al])
  rw [← h]
  rfl
set_option maxHeartbeats 400000 in
theorem empty_any (n : Int) (w : World) : Calls Tryd.prog 52 #[.int .i64 n] w fun e w' => e = .returned (.agg (pic n zc)) ∧ w' = w.alloc (.cells (pic n zc) 35) := by
  have hz37 := (zero_of_info info37').1
  have HS : Hid ((Tryd.prog.info? 35).map (·.size) = some (pic n zc).size) := Lib.hid (by rw [pic_size n zc zc_size]; exact (zero_of_info info37').2)
  have HZS : Hid ((pic 0 zc).size = (pic n zc).size) := Lib.hid (by rw [pic_size n zc zc_size, pic_size 0 zc zc_size])
  have H1 := Lib.hid (zc_one n)
  have hne : ¬ pic 0 zc = #[] := fun e => by
    have := congrArg Array.size e
    rw [pic_size 0 zc zc_size] at this
    simp at this
  have HB := Lib.hid (pic_set0 0 n zc)
  generalize pic n zc = B at *
  generalize pic 0 zc = Z at *
  have HS2 : Hid ((Tryd.prog.info? 35).map (·.size) = some (Z.setIfInBounds 0 (Value.int .i64 n)).size) := Lib.hid (by rw [HB.out]; exact HS.out)
  have HZ2 : Hid (Z.size = (Z.setIfInBounds 0 (Value.int .i64 n)).size) := Lib.hid (by rw [HB.out]; exact HZS.out)
  have H2 : Hid ((Z.setIfInBounds 0 (Value.int .i64 n)).all (·.oneCell') = true) := Lib.hid (by rw [HB.out]; exact H1.out)
  go_enter Tryd.func52, Tryd.ntmps52
  go_wp2_with (refine wpList_store_row rfl 35 (.tmp 2) (.tmp 4) rfl w.heap.size (Z.setIfInBounds 0 (Value.int .i64 n)) rfl rfl 35 Z (h1_0 _ _) HS2.out HZ2.out H2.out ?_; rw [World.setRow_alloc_new, HB.out])
  exact bodyPost_ret (v := .agg B) (results_cell_row (fn := Tryd.f52) (p := 2) (ty := 35) rfl _ _ w.heap.size 35 B (0, 0) _ rfl (h1_0 _ _) Tryd.underlying35 rfl HS.out) rfl ⟨rfl, rfl⟩

end Go.Proofs.YtclflnpbiiimiaaDoor

namespace Go.Proofs.YtclflnpbiiimiaaDoor
open Go Go.RowKit

/-- the cells of a wave of a side: complex numbers, if only some -/
def Wav (s : Int) (D : Array Value) : Prop := D.size = 65 ∧ D[0]? = some (.int .i64 s) ∧ ∀ k, k < 64 → ∃ x y, D[1 + k]? = some (.complex .f32 x y)

theorem run_partC (zs : Array Value) (i x y : Nat) (h : zs[i]? = some (.complex .f32 x y)) (w : World) : (part 32 zs (i * 1)).run Tryd.prog w = .ok (.complex .f32 x y) w := by
  have a := Tryd.isAgg32
  simp [part, a, h]

theorem run_eqC (d x y a b : Nat) (w : World) : (Op.equalIn (d + 1) 32 (.complex .f32 x y) (.complex .f32 a b)).run Tryd.prog w = .ok (Op.floatEq .f32 x a && Op.floatEq .f32 y b) w := by
  simp [Op.equalIn, run_underlying Tryd.underlying32]

theorem run_eqA (zs ys : Array Value) (E : Nat → Bool) (h : ∀ k, k < 64 → ∃ x y a b, zs[k]? = some (.complex .f32 x y) ∧ ys[k]? = some (.complex .f32 a b) ∧ (Op.floatEq .f32 x a && Op.floatEq .f32 y b) = E k) (d : Nat) (w : World) :
    (Op.equalIn (d + 2) 33 (.agg zs) (.agg ys)).run Tryd.prog w = .ok ((List.range' 0 64).all E) w := by
  have z := Tryd.sizeOf32
  rw [Op.equalIn]
  simp only [Sem.run_bind, run_underlying Tryd.underlying33, Result.andThen_ok, z, Std.Legacy.Range.forIn_eq_forIn_range', Std.Legacy.Range.size, Nat.sub_zero, Nat.add_sub_cancel, Nat.div_one]
  have hl : ∀ i ∈ List.range' 0 64, i < 64 := by simp
  generalize List.range' 0 64 = l at *
  induction l with
  | nil => simp
  | cons i l ih =>
    obtain ⟨x, y, a, b, hx, hy, hE⟩ := h i (hl i (by simp))
    have ih' := ih (fun j hj => hl j (by simp [hj]))
    simp only [List.forIn_cons, Sem.run_bind, run_partC zs i x y hx, run_partC ys i a b hy, Result.andThen_ok, run_eqC, hE, List.all_cons]
    cases E i
    · simp
    · simpa using ih'

theorem run_partW (D : Array Value) (w : World) : (part 33 D 1).run Tryd.prog w = .ok (.agg (D.extract 1 65)) w := by
  have a := Tryd.isAgg33
  have z := Tryd.sizeOf33
  simp [part, a, z]

theorem ext_get (D : Array Value) (h : D.size = 65) (k : Nat) (hk : k < 64) : (D.extract 1 65)[k]? = D[1 + k]? := by
  rw [Array.getElem?_extract, if_pos (by omega)]

theorem run_eqW (s : Int) (D C : Array Value) (hD : Wav s D) (hC : Wav s C) (E : Nat → Bool)
    (h : ∀ k, k < 64 → ∃ x y a b, D[1 + k]? = some (.complex .f32 x y) ∧ C[1 + k]? = some (.complex .f32 a b) ∧ (Op.floatEq .f32 x a && Op.floatEq .f32 y b) = E k) (w : World) :
    (Op.equalIn 10000 35 (.agg D) (.agg C)).run Tryd.prog w = .ok ((List.range' 0 64).all E) w := by
  have hS : Tryd.prog.underlying 35 = some (.struct (Tryd.prog.fieldsOf 35)) := by kernel_rfl
  have hp : Tryd.prog.stoodInHeld 35 = false := by kernel_rfl
  rw [show (10000 : Nat) = 9999 + 1 from rfl, run_equalIn_agg w 9999 35 _ _ hS hp]
  have p1 : ∀ (D : Array Value), Wav s D → ∀ w : World, (part 2 D 0).run Tryd.prog w = .ok (.int .i64 s) w := by
    intro D hD w
    have a := Tryd.isAgg2
    simp [part, a, hD.2.1]
  have q1 := p1 D hD
  have q2 := p1 C hC
  have e1 := fun w => run_equalIn_int (P := Tryd.prog) w 9998 2 .i64 .i64 s s Tryd.underlying2
  have e2 := run_eqA (D.extract 1 65) (C.extract 1 65) E (fun k hk => by rw [ext_get D hD.1 k hk, ext_get C hC.1 k hk]; exact h k hk) 9997
  have p2 := run_partW D
  have p3 := run_partW C
  simp only [Program.fieldsOf, Tryd.underlying35]
  simp only [Op.eqFields, Sem.run_bind, Sem.run_ite, q1, q2, p2, p3, e1, e2, Result.andThen_ok]
  simp only [beq_self_eq_true, Bool.not_true, Bool.false_eq_true, if_false, ne_eq, show ¬ ("Side" : String) = "_" by decide, show ¬ ("Cells" : String) = "_" by decide, not_false_eq_true, if_true]
  cases (List.range' 0 64).all E <;> rfl

theorem run_eqlW (s : Int) (D C : Array Value) (hD : Wav s D) (hC : Wav s C) (E : Nat → Bool)
    (h : ∀ k, k < 64 → ∃ x y a b, D[1 + k]? = some (.complex .f32 x y) ∧ C[1 + k]? = some (.complex .f32 a b) ∧ (Op.floatEq .f32 x a && Op.floatEq .f32 y b) = E k) (w : World) :
    (binOp .eql 35 (.agg D) (.agg C)).run Tryd.prog w = .ok (.bool ((List.range' 0 64).all E)) w := by
  rw [run_eql_struct, run_eqW s D C hD hC E h w]
  rfl
theorem run_neqW (s : Int) (D C : Array Value) (hD : Wav s D) (hC : Wav s C) (E : Nat → Bool)
    (h : ∀ k, k < 64 → ∃ x y a b, D[1 + k]? = some (.complex .f32 x y) ∧ C[1 + k]? = some (.complex .f32 a b) ∧ (Op.floatEq .f32 x a && Op.floatEq .f32 y b) = E k) (w : World) :
    (binOp .neq 35 (.agg D) (.agg C)).run Tryd.prog w = .ok (.bool (!(List.range' 0 64).all E)) w := by
  rw [run_neq_struct, run_eqW s D C hD hC E h w]
  rfl

theorem self32 (x : Nat) (h : fin x = true) : Op.floatEq .f32 x x = true := by
  obtain ⟨s, m, p, hr, _⟩ := fin_read x h
  unfold Op.floatEq
  have : FloatKind.f32.format.order x x = some .eq := by
    show (Ieee.single.read x).order (Ieee.single.read x) = _
    rw [hr]
    simp only [Ieee.Datum.order, int_cmp_self]
  rw [this]
  rfl

theorem finW_of (s : Int) (zs : Array Value) (h : Cells zs) : FinW s (pic s zs) := by
  refine ⟨pic_size _ _ h.1, pic_zero _ _, fun k hk => ?_⟩
  obtain ⟨x, y, hx, hy, hz⟩ := h.2 k hk
  exact ⟨x, y, by rw [Nat.add_comm, pic_succ]; exact hz, by rw [hx, hy]; rfl⟩
theorem finW_wav {s : Int} {D : Array Value} (h : FinW s D) : Wav s D := by
  refine ⟨h.1, h.2.1, fun k hk => ?_⟩
  obtain ⟨x, y, hz, _⟩ := h.2.2 k hk
  exact ⟨x, y, hz⟩
/-- a wave of finite cells is no other than itself -/
theorem neq_self (s : Int) (D : Array Value) (h : FinW s D) (w : World) : (binOp .neq 35 (.agg D) (.agg D)).run Tryd.prog w = .ok (.bool false) w := by
  rw [run_neqW s D D (finW_wav h) (finW_wav h) (fun _ => true) (fun k hk => by
    obtain ⟨x, y, hz, hf⟩ := h.2.2 k hk
    rw [Bool.and_eq_true] at hf
    exact ⟨x, y, x, y, hz, hz, by rw [self32 x hf.1, self32 y hf.2]; rfl⟩) w]
  simp
theorem eql_self (s : Int) (D : Array Value) (h : FinW s D) (w : World) : (binOp .eql 35 (.agg D) (.agg D)).run Tryd.prog w = .ok (.bool true) w := by
  rw [run_eqlW s D D (finW_wav h) (finW_wav h) (fun _ => true) (fun k hk => by
    obtain ⟨x, y, hz, hf⟩ := h.2.2 k hk
    rw [Bool.and_eq_true] at hf
    exact ⟨x, y, x, y, hz, hz, by rw [self32 x hf.1, self32 y hf.2]; rfl⟩) w]
  simp
end Go.Proofs.YtclflnpbiiimiaaDoor

namespace Go.Proofs.YtclflnpbiiimiaaDoor
open Go Go.RowKit

/-- a height, wrapped -/
def wrapH (h : Int) : Int := h % 64
/-- the wrapped difference -/
def lessH (h k : Int) : Int := (k - h + 32) % 64 - 32
/-- a height -/
def isH (h : Int) : Bool := decide (-100000 ≤ h) && decide (h ≤ 100000)
/-- a wrapped height -/
def isW (h : Int) : Bool := decide (0 ≤ h) && decide (h ≤ 63)
/-- a height map of the side n -/
def isMap (n : Int) (L : List Int) : Bool := side n && (decide ((L.length : Int) = n * n) && L.all isH)
/-- the code of a map that has to be wrapped -/
def codeW (n : Int) (L : List Int) : Int := if isMap n L then (if L.all isW then 0 else 5) else 1

theorem wrapH_range (h : Int) : 0 ≤ wrapH h ∧ wrapH h ≤ 63 := by unfold wrapH; omega
theorem lessH_range (h k : Int) : -32 ≤ lessH h k ∧ lessH h k ≤ 31 := by unfold lessH; omega

theorem tmod_range (h : Int) : -64 < h.tmod 64 ∧ h.tmod 64 < 64 := by
  have h1 := Int.tmod_lt_of_pos h (show (0 : Int) < 64 by decide)
  have h2 := Int.lt_tmod_of_pos h (show (0 : Int) < 64 by decide)
  omega
theorem tmod_emod (h : Int) : (h.tmod 64 + 64) % 64 = h % 64 := by
  rcases Int.le_total 0 h with h0 | h0
  · rw [Int.tmod_eq_emod_of_nonneg h0]; omega
  · have e : h.tmod 64 = -((-h) % 64) := by
      rw [← Int.tmod_eq_emod_of_nonneg (by omega : 0 ≤ -h), Int.neg_tmod, Int.neg_neg]
    rw [e]; omega
theorem tmod_neg (h : Int) (h0 : h.tmod 64 < 0) : h.tmod 64 + 64 = h % 64 := by
  have h1 := tmod_range h
  have h2 := tmod_emod h
  rw [← h2]
  omega
theorem tmod_pos (h : Int) (h0 : 0 ≤ h.tmod 64) : h.tmod 64 = h % 64 := by
  have h1 := tmod_range h
  have h2 := tmod_emod h
  omega

theorem isMap_side {n : Int} {L : List Int} (h : isMap n L = true) : side n = true := by
  unfold isMap at h; simp only [Bool.and_eq_true] at h; exact h.1
theorem isMap_len {n : Int} {L : List Int} (h : isMap n L = true) : (L.length : Int) = n * n := by
  unfold isMap at h; simp only [Bool.and_eq_true, decide_eq_true_eq] at h; exact h.2.1
theorem isMap_all {n : Int} {L : List Int} (h : isMap n L = true) (i : Nat) (hi : i < L.length) : -100000 ≤ L.getD i 0 ∧ L.getD i 0 ≤ 100000 := by
  unfold isMap at h
  simp only [Bool.and_eq_true, List.all_eq_true] at h
  have h1 := h.2.2 (L.getD i 0) (by rw [List.getD_eq_getElem?_getD, List.getElem?_eq_getElem hi]; exact List.getElem_mem _)
  unfold isH at h1
  simp only [Bool.and_eq_true, decide_eq_true_eq] at h1
  exact h1
theorem isW_all {L : List Int} (h : L.all isW = true) (i : Nat) (hi : i < L.length) : 0 ≤ L.getD i 0 ∧ L.getD i 0 ≤ 63 := by
  simp only [List.all_eq_true] at h
  have h1 := h (L.getD i 0) (by rw [List.getD_eq_getElem?_getD, List.getElem?_eq_getElem hi]; exact List.getElem_mem _)
  unfold isW at h1
  simp only [Bool.and_eq_true, decide_eq_true_eq] at h1
  exact h1
/-- the side as a small whole number -/
theorem isMap_nat {n : Int} {L : List Int} (h : isMap n L = true) : ∃ m : Nat, n = m ∧ 1 ≤ m ∧ m ≤ 8 ∧ L.length = m * m := by
  have h1 := isMap_len h
  rcases side_yes n (isMap_side h) with rfl | rfl | rfl | rfl
  · exact ⟨1, rfl, by omega, by omega, by omega⟩
  · exact ⟨2, rfl, by omega, by omega, by omega⟩
  · exact ⟨4, rfl, by omega, by omega, by omega⟩
  · exact ⟨8, rfl, by omega, by omega, by omega⟩
theorem isMap_pos {n : Int} {L : List Int} (h : isMap n L = true) : 0 < L.length := by
  obtain ⟨m, _, h1, _, h2⟩ := isMap_nat h
  rw [h2]; exact Nat.mul_pos h1 h1

/-- how far a list is all of a kind -/
theorem all_take_succ (p : Int → Bool) (L : List Int) (k : Nat) (hk : k < L.length) : (L.take (k + 1)).all p = ((L.take k).all p && p (L.getD k 0)) := by
  rw [take_succ_getD L k hk, List.all_append, List.all_cons, List.all_nil, Bool.and_true]
theorem any_take_succ (p : Int → Bool) (L : List Int) (k : Nat) (hk : k < L.length) : (L.take (k + 1)).any p = ((L.take k).any p || p (L.getD k 0)) := by
  rw [take_succ_getD L k hk, List.any_append, List.any_cons, List.any_nil, Bool.or_false]
theorem all_false_of (p : Int → Bool) (L : List Int) (k : Nat) (hk : k < L.length) (h : p (L.getD k 0) = false) : L.all p = false := by
  cases h1 : L.all p
  · rfl
  · simp only [List.all_eq_true] at h1
    have := h1 (L.getD k 0) (by rw [List.getD_eq_getElem?_getD, List.getElem?_eq_getElem hk]; exact List.getElem_mem _)
    rw [this] at h; cases h
theorem any_true_of (p : Int → Bool) (L : List Int) (k : Nat) (hk : k < L.length) (h : p (L.getD k 0) = true) : L.any p = true := by
  simp only [List.any_eq_true]
  exact ⟨_, by rw [List.getD_eq_getElem?_getD, List.getElem?_eq_getElem hk]; exact List.getElem_mem _, h⟩

end Go.Proofs.YtclflnpbiiimiaaDoor
