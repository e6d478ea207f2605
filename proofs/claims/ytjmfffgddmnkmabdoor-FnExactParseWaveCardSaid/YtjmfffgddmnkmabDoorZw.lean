/- Plain facts on waves that are filled cell by cell, and the model's wave without cells. Condition: none. -/
import Derived.Test.YtjmfffgddmnkmabDoorEqV
import Derived.Laws.ResultCell
namespace Go.Proofs.YtjmfffgddmnkmabDoor
open Go Go.RowKit

/-- 64 complex zeros -/
def zc : Array Value := Array.replicate 64 (.complex .f32 0 0)
theorem info37' : (Tryd.prog.info? 25).map (fun i => (i.zero, i.size)) = some (some (.agg (pic 0 zc)), 65) := info37
theorem zc_size : zc.size = 64 := by simp [zc]
theorem results_row_tmp {P : Program} {fn : Func} {p u : Tmp} {ty : TypeId} (h : fn.results = #[.cell p ty, .tmp u]) (tmps : Array Value) (w : World) (g : Nat) (t : TypeId) (cs : Array Value) (fr : Nat × Nat) (d : TypeDesc)
    (hp : tmps.getD p undef = .pointer (some ⟨g, 0, none⟩)) (hg : w.heap[g]? = some (.cells cs t fr))
    (hu : P.underlying ty = some d) (hd : (match d with | .struct _ | .array _ _ => true | _ => false) = true) (hi : (P.info? ty).map (·.size) = some cs.size) :
    (results fn tmps).run P w = .ok (.tuple #[.agg cs, tmps.getD u undef]) w := by
  have hp' : tmps[p]?.getD undef = .pointer (some ⟨g, 0, none⟩) := by simpa using hp
  rw [results_cell_tmp h]
  simp [asAddr, hp', run_loadVar_row w g t ty cs fr d hg hu hd hi]
theorem pic_ne : ¬ pic 0 zc = #[] := fun e => by
  have := congrArg Array.size e
  rw [pic_size 0 zc zc_size] at this
  simp at this
/-- a whole row is loaded, behind a guard that lets it by -/
theorem wpList_load_row_g {P : Program} {ops : Array Oper} {rest : List Oper} {o : Oper} {a : Act} {w : World} {Q : Exit → Act → World → Prop} (hgd : Region.wanted o (yielded ops a.tmps) = true) (ty : TypeId) (x : Operand) (ho : o.op = .load ty x)
    (g : Nat) (hx : a.eval x = .pointer (some ⟨g, 0, none⟩)) (t : TypeId) (cs : Array Value) (fr : Nat × Nat) (d : TypeDesc) (hg : w.heap[g]? = some (.cells cs t fr))
    (hu : P.underlying ty = some d) (hd : (match d with | .struct _ | .array _ _ => true | _ => false) = true) (hi : (P.info? ty).map (·.size) = some cs.size)
    (h : wpList P ops Q rest (a.put o.dst (.agg cs)) w) : wpList P ops Q (o :: rest) a w :=
  wpList_step fun _ hK => by rw [if_pos hgd]; exact wp_load_row ty x ho g hx t cs fr d hg hu hd hi (hK _ _ h)
/-- a wave of 64 finite complex numbers -/
def FinW (s : Int) (D : Array Value) : Prop := D.size = 65 ∧ D[0]? = some (.int .i64 s) ∧ ∀ k, k < 64 → ∃ x y, D[1 + k]? = some (.complex .f32 x y) ∧ (fin x && fin y) = true
theorem finW_one {s : Int} {D : Array Value} (h : FinW s D) : D.all (·.oneCell') = true := by
  rw [Array.all_eq_true_iff_forall_mem]
  intro v hv
  obtain ⟨i, hi, he⟩ := Array.mem_iff_getElem.1 hv
  have hg := Array.getElem?_eq_getElem hi
  rw [he] at hg
  cases i with
  | zero => rw [h.2.1] at hg; cases hg; rfl
  | succ i =>
    rw [h.1] at hi
    obtain ⟨x, y, hz, _⟩ := h.2.2 i (by omega)
    rw [Nat.add_comm, hg] at hz
    cases hz
    rfl
/-- the first k cells by a rule, the others 0 -/
def gf (F : Nat → Nat × Nat) (k : Nat) : Array Value := Array.ofFn (n := 64) fun i => if i.val < k then .complex .f32 (F i.val).1 (F i.val).2 else .complex .f32 0 0
theorem gf_get (F : Nat → Nat × Nat) (k i : Nat) : (gf F k)[i]? = if i < 64 then some (if i < k then .complex .f32 (F i).1 (F i).2 else .complex .f32 0 0) else none := by
  simp only [gf, Array.getElem?_ofFn]
  by_cases h : i < 64 <;> simp [h]
theorem gf_size (F : Nat → Nat × Nat) (k : Nat) : (gf F k).size = 64 := by simp [gf]
theorem gf_zero (F : Nat → Nat × Nat) : gf F 0 = zc := by
  apply Array.ext_getElem?
  intro i
  rw [gf_get]
  simp only [zc, Array.getElem?_replicate]
  split <;> simp
theorem gf_set (s : Int) (F : Nat → Nat × Nat) (k : Nat) (hk : k < 64) : (pic s (gf F k)).setIfInBounds (1 + k) (.complex .f32 (F k).1 (F k).2) = pic s (gf F (k + 1)) := by
  apply Array.ext_getElem?
  intro i
  rw [Array.getElem?_setIfInBounds, pic_size _ _ (gf_size F k)]
  cases i with
  | zero => rw [if_neg (by omega), pic_zero, pic_zero]
  | succ i =>
    rw [pic_succ, pic_succ, gf_get, gf_get]
    by_cases h1 : 1 + k = i + 1
    · obtain rfl : k = i := by omega
      simp [hk, show 1 + k = k + 1 by omega]
    · rw [if_neg h1]
      by_cases h2 : i < k
      · simp [h2, show i < k + 1 by omega]
      · simp [h2, show ¬ i < k + 1 by omega]
theorem gf_old (s : Int) (F : Nat → Nat × Nat) (k : Nat) (hk : k < 64) : (pic s (gf F k))[1 + k]? = some (.complex .f32 0 0) := by
  rw [Nat.add_comm, pic_succ, gf_get, if_pos hk, if_neg (by omega)]
theorem gf_fin (s : Int) (F : Nat → Nat × Nat) (hF : ∀ i, (fin (F i).1 && fin (F i).2) = true) (k : Nat) : FinW s (pic s (gf F k)) := by
  refine ⟨pic_size _ _ (gf_size _ _), pic_zero _ _, fun i hi => ?_⟩
  rw [Nat.add_comm, pic_succ, gf_get, if_pos hi]
  by_cases h : i < k
  · exact ⟨_, _, by rw [if_pos h], hF i⟩
  · exact ⟨0, 0, by rw [if_neg h], by decide⟩
theorem cell_al2 (w : World) (A B : Obj) (n : Nat) (p : Addr) (v : Value) (h : w.cell? p = some v) : (((w.alloc A).alloc B).drewN n).cell? p = some v := by
  have hb := World.block_lt_of_cell? w _ h
  rw [World.cell?_drewN, World.cell?_alloc_lt _ _ _ (by rw [size_al]; omega), World.cell?_alloc_lt _ _ _ hb, h]
theorem zc_one (s : Int) : (pic s zc).all (·.oneCell') = true := by rw [← gf_zero (fun _ => (0, 0))]; exact finW_one (gf_fin s _ (fun _ => by decide) 0)
theorem setRow_al3 (w : World) (A B : Obj) (Z cs : Array Value) (t : TypeId) : (((w.alloc A).alloc B).alloc (.cells Z t)).setRow (w.heap.size + 1 + 1) cs = ((w.alloc A).alloc B).alloc (.cells cs t) := by
  have h := World.setRow_alloc_new ((w.alloc A).alloc B) Z cs t
  rwa [size_al, size_al] at h
theorem setCell_al3 (w : World) (A B : Obj) (C : Array Value) (t : TypeId) (n j : Nat) (v : Value) :
    ((((w.alloc A).alloc B).alloc (.cells C t)).drewN n).setCell ⟨w.heap.size + 1 + 1, j, none⟩ v = (((w.alloc A).alloc B).alloc (.cells (C.setIfInBounds j v) t)).drewN n := by
  have h := World.setCell_alloc_at (w := (w.alloc A).alloc B) C t (w.heap.size + 1 + 1) j v (by rw [size_al, size_al])
  rw [← h]
  rfl
set_option maxHeartbeats 400000 in
theorem empty_any (n : Int) (w : World) : Calls Tryd.prog 35 #[.int .i64 n] w fun e w' => e = .returned (.agg (pic n zc)) ∧ w' = w.alloc (.cells (pic n zc) 25) := by
  have hz37 := (zero_of_info info37').1
  have HS : Hid ((Tryd.prog.info? 25).map (·.size) = some (pic n zc).size) := Lib.hid (by rw [pic_size n zc zc_size]; exact (zero_of_info info37').2)
  have HZS : Hid ((pic 0 zc).size = (pic n zc).size) := Lib.hid (by rw [pic_size n zc zc_size, pic_size 0 zc zc_size])
  have H1 := Lib.hid (zc_one n)
  have hne : ¬ pic 0 zc = #[] := fun e => by
    have := congrArg Array.size e
    rw [pic_size 0 zc zc_size] at this
    simp at this
  have HB := Lib.hid (pic_set0 0 n zc)
  generalize pic n zc = B at *
  generalize pic 0 zc = Z at *
  have HS2 : Hid ((Tryd.prog.info? 25).map (·.size) = some (Z.setIfInBounds 0 (Value.int .i64 n)).size) := Lib.hid (by rw [HB.out]; exact HS.out)
  have HZ2 : Hid (Z.size = (Z.setIfInBounds 0 (Value.int .i64 n)).size) := Lib.hid (by rw [HB.out]; exact HZS.out)
  have H2 : Hid ((Z.setIfInBounds 0 (Value.int .i64 n)).all (·.oneCell') = true) := Lib.hid (by rw [HB.out]; exact H1.out)
  go_enter Tryd.func35, Tryd.ntmps35
  go_wp2_with (refine wpList_store_row rfl 25 (.tmp 2) (.tmp 4) rfl w.heap.size (Z.setIfInBounds 0 (Value.int .i64 n)) rfl rfl 25 Z (h1_0 _ _) HS2.out HZ2.out H2.out ?_; rw [World.setRow_alloc_new, HB.out])
  exact bodyPost_ret (v := .agg B) (results_cell_row (fn := Tryd.f35) (p := 2) (ty := 25) rfl _ _ w.heap.size 25 B (0, 0) _ rfl (h1_0 _ _) Tryd.underlying25 rfl HS.out) rfl ⟨rfl, rfl⟩

end Go.Proofs.YtjmfffgddmnkmabDoor
