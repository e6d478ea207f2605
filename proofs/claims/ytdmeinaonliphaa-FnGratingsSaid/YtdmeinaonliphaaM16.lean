/- The phases of the program and of the model, called with any integer, are the table's entry at its remainder by 64. Condition: none. What is known of the phases, and spec.PhaseOf. Condition: none. Plain facts on the cells of a plane wave, filled row by row. Condition: none. Plain facts on results that lie in a row and a slot. Condition: none. -/
import Derived.Test.YtdmeinaonliphaaSpecT0
import Derived.Test.YtdmeinaonliphaaImplT0
import Derived.Test.YtdmeinaonliphaaSpecT1
import Derived.Test.YtdmeinaonliphaaImplT1
import Derived.Test.YtdmeinaonliphaaSpecT2
import Derived.Test.YtdmeinaonliphaaImplT2
import Derived.Test.YtdmeinaonliphaaSpecT3
import Derived.Test.YtdmeinaonliphaaImplT3
import Derived.Test.YtdmeinaonliphaaM1
import Derived.Laws.ResultCell
namespace Go.Proofs.Ytdmeinaonliphaa
open Go
theorem spec_all (w : World) (k x y : Int) (cs : List Frame) (m : Nat) (hm : m < 64) :
    outM Try.prog (fun g => g == 107) memoHalf 9999 69 (frSpec w k x y (m : Nat)) cs w = some (.complex .f32 (tre m) (tim m), cs, w, w) := by
  exact match m, hm with
  | 0, _ => spec_0 w k x y cs
  | 1, _ => spec_1 w k x y cs
  | 2, _ => spec_2 w k x y cs
  | 3, _ => spec_3 w k x y cs
  | 4, _ => spec_4 w k x y cs
  | 5, _ => spec_5 w k x y cs
  | 6, _ => spec_6 w k x y cs
  | 7, _ => spec_7 w k x y cs
  | 8, _ => spec_8 w k x y cs
  | 9, _ => spec_9 w k x y cs
  | 10, _ => spec_10 w k x y cs
  | 11, _ => spec_11 w k x y cs
  | 12, _ => spec_12 w k x y cs
  | 13, _ => spec_13 w k x y cs
  | 14, _ => spec_14 w k x y cs
  | 15, _ => spec_15 w k x y cs
  | 16, _ => spec_16 w k x y cs
  | 17, _ => spec_17 w k x y cs
  | 18, _ => spec_18 w k x y cs
  | 19, _ => spec_19 w k x y cs
  | 20, _ => spec_20 w k x y cs
  | 21, _ => spec_21 w k x y cs
  | 22, _ => spec_22 w k x y cs
  | 23, _ => spec_23 w k x y cs
  | 24, _ => spec_24 w k x y cs
  | 25, _ => spec_25 w k x y cs
  | 26, _ => spec_26 w k x y cs
  | 27, _ => spec_27 w k x y cs
  | 28, _ => spec_28 w k x y cs
  | 29, _ => spec_29 w k x y cs
  | 30, _ => spec_30 w k x y cs
  | 31, _ => spec_31 w k x y cs
  | 32, _ => spec_32 w k x y cs
  | 33, _ => spec_33 w k x y cs
  | 34, _ => spec_34 w k x y cs
  | 35, _ => spec_35 w k x y cs
  | 36, _ => spec_36 w k x y cs
  | 37, _ => spec_37 w k x y cs
  | 38, _ => spec_38 w k x y cs
  | 39, _ => spec_39 w k x y cs
  | 40, _ => spec_40 w k x y cs
  | 41, _ => spec_41 w k x y cs
  | 42, _ => spec_42 w k x y cs
  | 43, _ => spec_43 w k x y cs
  | 44, _ => spec_44 w k x y cs
  | 45, _ => spec_45 w k x y cs
  | 46, _ => spec_46 w k x y cs
  | 47, _ => spec_47 w k x y cs
  | 48, _ => spec_48 w k x y cs
  | 49, _ => spec_49 w k x y cs
  | 50, _ => spec_50 w k x y cs
  | 51, _ => spec_51 w k x y cs
  | 52, _ => spec_52 w k x y cs
  | 53, _ => spec_53 w k x y cs
  | 54, _ => spec_54 w k x y cs
  | 55, _ => spec_55 w k x y cs
  | 56, _ => spec_56 w k x y cs
  | 57, _ => spec_57 w k x y cs
  | 58, _ => spec_58 w k x y cs
  | 59, _ => spec_59 w k x y cs
  | 60, _ => spec_60 w k x y cs
  | 61, _ => spec_61 w k x y cs
  | 62, _ => spec_62 w k x y cs
  | 63, _ => spec_63 w k x y cs
  | m + 64, h => absurd h (by omega)
theorem impl_all (w : World) (k : Int) (cs : List Frame) (m : Nat) (hm : m < 64) :
    outM Try.prog (fun _ => false) (fun _ _ => none) 9999 17 (frImpl w k (m : Nat)) cs w = some (.complex .f32 (tre m) (tim m), cs, w, w) := by
  exact match m, hm with
  | 0, _ => impl_0 w k cs
  | 1, _ => impl_1 w k cs
  | 2, _ => impl_2 w k cs
  | 3, _ => impl_3 w k cs
  | 4, _ => impl_4 w k cs
  | 5, _ => impl_5 w k cs
  | 6, _ => impl_6 w k cs
  | 7, _ => impl_7 w k cs
  | 8, _ => impl_8 w k cs
  | 9, _ => impl_9 w k cs
  | 10, _ => impl_10 w k cs
  | 11, _ => impl_11 w k cs
  | 12, _ => impl_12 w k cs
  | 13, _ => impl_13 w k cs
  | 14, _ => impl_14 w k cs
  | 15, _ => impl_15 w k cs
  | 16, _ => impl_16 w k cs
  | 17, _ => impl_17 w k cs
  | 18, _ => impl_18 w k cs
  | 19, _ => impl_19 w k cs
  | 20, _ => impl_20 w k cs
  | 21, _ => impl_21 w k cs
  | 22, _ => impl_22 w k cs
  | 23, _ => impl_23 w k cs
  | 24, _ => impl_24 w k cs
  | 25, _ => impl_25 w k cs
  | 26, _ => impl_26 w k cs
  | 27, _ => impl_27 w k cs
  | 28, _ => impl_28 w k cs
  | 29, _ => impl_29 w k cs
  | 30, _ => impl_30 w k cs
  | 31, _ => impl_31 w k cs
  | 32, _ => impl_32 w k cs
  | 33, _ => impl_33 w k cs
  | 34, _ => impl_34 w k cs
  | 35, _ => impl_35 w k cs
  | 36, _ => impl_36 w k cs
  | 37, _ => impl_37 w k cs
  | 38, _ => impl_38 w k cs
  | 39, _ => impl_39 w k cs
  | 40, _ => impl_40 w k cs
  | 41, _ => impl_41 w k cs
  | 42, _ => impl_42 w k cs
  | 43, _ => impl_43 w k cs
  | 44, _ => impl_44 w k cs
  | 45, _ => impl_45 w k cs
  | 46, _ => impl_46 w k cs
  | 47, _ => impl_47 w k cs
  | 48, _ => impl_48 w k cs
  | 49, _ => impl_49 w k cs
  | 50, _ => impl_50 w k cs
  | 51, _ => impl_51 w k cs
  | 52, _ => impl_52 w k cs
  | 53, _ => impl_53 w k cs
  | 54, _ => impl_54 w k cs
  | 55, _ => impl_55 w k cs
  | 56, _ => impl_56 w k cs
  | 57, _ => impl_57 w k cs
  | 58, _ => impl_58 w k cs
  | 59, _ => impl_59 w k cs
  | 60, _ => impl_60 w k cs
  | 61, _ => impl_61 w k cs
  | 62, _ => impl_62 w k cs
  | 63, _ => impl_63 w k cs
  | m + 64, h => absurd h (by omega)

theorem toNat64 (k : Int) : ((k % 64).toNat : Int) = k % 64 ∧ (k % 64).toNat < 64 := by omega

theorem spec_phase (k : Int) (w : World) : Calls Try.prog 69 #[.int .i64 k] w fun e w' => e = .returned (.complex .f32 (tre (k % 64).toNat) (tim (k % 64).toNat)) ∧ w = w' := by
  refine calls_from (is := fun g => g == 107) known_half 9999 (frSpec w k (k.tmod 64) (IntKind.i64.wrap (k.tmod 64 + 64)) (k % 64)) (fun cs => ?_) (fun cs => ?_)
  · have h := runM_steps (known_none _) 99 (spec_head w k cs)
    rw [spec_rest] at h
    exact h
  · have h := spec_all w k (k.tmod 64) (IntKind.i64.wrap (k.tmod 64 + 64)) cs (k % 64).toNat (toNat64 k).2
    rw [(toNat64 k).1] at h
    exact h

theorem impl_phase (k : Int) (w : World) : Calls Try.prog 17 #[.int .i64 k] w fun e w' => e = .returned (.complex .f32 (tre (k % 64).toNat) (tim (k % 64).toNat)) ∧ w = w' := by
  refine calls_from (is := fun _ => false) (known_none _) 9999 (frImpl w k (k % 64)) (fun cs => ?_) (fun cs => ?_)
  · exact runM_steps known_rem 99 (impl_head w k cs)
  · have h := impl_all w k cs (k % 64).toNat (toNat64 k).2
    rw [(toNat64 k).1] at h
    exact h

end Go.Proofs.Ytdmeinaonliphaa

namespace Go.Proofs.Ytdmeinaonliphaa
open Go

def memoPhase (g : FuncId) (args : Array Value) : Option Value :=
  if g = 69 ∨ g = 17 then
    match args.toList with
    | [.int .i64 k] => some (.complex .f32 (tre (k % 64).toNat) (tim (k % 64).toNat))
    | _ => none
  else none

theorem known_phase : Known Try.prog memoPhase := by
  intro g args v h w
  unfold memoPhase at h
  split at h
  · rename_i hg
    split at h
    · rename_i k hl
      obtain ⟨l⟩ := args
      simp only at hl
      subst hl
      cases h
      rcases hg with rfl | rfl
      · exact spec_phase k w
      · exact impl_phase k w
    · cases h
  · cases h

theorem spec_phaseOf (k : Int) (w : World) : Calls Try.prog 18 #[.int .i64 k] w fun e w' => e = .returned (.complex .f32 (tre (k % 64).toNat) (tim (k % 64).toNat)) ∧ w = w' :=
  calls_of (fun g => g == 69) known_phase 999 (fun cs => by kernel_rfl)

end Go.Proofs.Ytdmeinaonliphaa

namespace Go.Proofs.Ytdmeinaonliphaa
open Go Go.RowKit

/-- 64 complex zeros -/
def zc : Array Value := Array.replicate 64 (.complex .f32 0 0)
/-- the part of a turn at the row y and the column x -/
def idx (c : Int) (u v : Int) (y x : Nat) : Nat := (((u * x + v * y) * c) % 64).toNat
/-- the parts of a turn, cell by cell -/
def parts (n : Nat) (c u v : Int) (i : Nat) : Nat := idx c u v (i / n) (i % n)
/-- the first k cells filled with phases, over zeros -/
def fill (f : Nat → Nat) (k : Nat) : Array Value := Array.ofFn (n := 64) fun i => if i.val < k then .complex .f32 (tre (f i.val)) (tim (f i.val)) else .complex .f32 0 0
theorem fill_get (f : Nat → Nat) (k i : Nat) : (fill f k)[i]? = if i < 64 then some (if i < k then .complex .f32 (tre (f i)) (tim (f i)) else .complex .f32 0 0) else none := by
  simp only [fill, Array.getElem?_ofFn]
  by_cases h : i < 64 <;> simp [h]
theorem fill_size (f : Nat → Nat) (k : Nat) : (fill f k).size = 64 := by simp [fill]
theorem fill_zero (f : Nat → Nat) : fill f 0 = zc := by
  apply Array.ext_getElem?
  intro i
  rw [fill_get]
  simp only [zc, Array.getElem?_replicate]
  split <;> simp
theorem pic_fill (s : Int) (f : Nat → Nat) (k : Nat) (hk : k < 64) : (pic s (fill f k)).setIfInBounds (1 + k) (.complex .f32 (tre (f k)) (tim (f k))) = pic s (fill f (k + 1)) := by
  apply Array.ext_getElem?
  intro i
  rw [Array.getElem?_setIfInBounds, pic_size _ _ (fill_size f k)]
  cases i with
  | zero => rw [if_neg (by omega), pic_zero, pic_zero]
  | succ i =>
    rw [pic_succ, pic_succ, fill_get, fill_get]
    by_cases h1 : 1 + k = i + 1
    · obtain rfl : k = i := by omega
      simp [hk, show 1 + k = k + 1 by omega]
    · rw [if_neg h1]
      by_cases h2 : i < k
      · simp [h2, show i < k + 1 by omega]
      · simp [h2, show ¬ i < k + 1 by omega]
theorem fill_old (s : Int) (f : Nat → Nat) (k : Nat) (hk : k < 64) : (pic s (fill f k))[1 + k]? = some (.complex .f32 0 0) := by
  rw [Nat.add_comm, pic_succ, fill_get, if_pos hk, if_neg (by omega)]
theorem tab_fin : ∀ m, m < 64 → fin (tre m) = true ∧ fin (tim m) = true := by decide
theorem parts_lt (n : Nat) (c u v : Int) (i : Nat) : parts n c u v i < 64 := by
  unfold parts idx
  omega
theorem fill_cells (f : Nat → Nat) (hf : ∀ i, f i < 64) (k : Nat) : Cells (fill f k) := by
  refine ⟨fill_size f k, fun i hi => ?_⟩
  rw [fill_get, if_pos hi]
  by_cases h : i < k
  · obtain ⟨h1, h2⟩ := tab_fin (f i) (hf i)
    exact ⟨_, _, h1, h2, by rw [if_pos h]⟩
  · exact ⟨0, 0, by decide, by decide, by rw [if_neg h]⟩
theorem fill_one (s : Int) (f : Nat → Nat) (k : Nat) : (pic s (fill f k)).all (·.oneCell') = true := by
  rw [Array.all_eq_true_iff_forall_mem]
  intro v hv
  obtain ⟨i, hi, he⟩ := Array.mem_iff_getElem.1 hv
  have h := Array.getElem?_eq_getElem hi
  rw [he] at h
  cases i with
  | zero => rw [pic_zero] at h; cases h; rfl
  | succ i =>
    rw [pic_succ, fill_get] at h
    split at h
    · cases h
      split <;> rfl
    · cases h
theorem info37' : (Try.prog.info? 32).map (fun i => (i.zero, i.size)) = some (some (.agg (pic 0 zc)), 65) := info37
theorem zc_size : zc.size = 64 := by simp [zc]
theorem zc_one (s : Int) : (pic s zc).all (·.oneCell') = true := by rw [← fill_zero (fun _ => 0)]; exact fill_one _ _ _
theorem setRow_al3 (w : World) (A B : Obj) (Z cs : Array Value) (t : TypeId) : (((w.alloc A).alloc B).alloc (.cells Z t)).setRow (w.heap.size + 1 + 1) cs = ((w.alloc A).alloc B).alloc (.cells cs t) := by
  have h := World.setRow_alloc_new ((w.alloc A).alloc B) Z cs t
  rwa [size_al, size_al] at h
theorem setCell_al3 (w : World) (A B : Obj) (C : Array Value) (t : TypeId) (n j : Nat) (v : Value) :
    ((((w.alloc A).alloc B).alloc (.cells C t)).drewN n).setCell ⟨w.heap.size + 1 + 1, j, none⟩ v = (((w.alloc A).alloc B).alloc (.cells (C.setIfInBounds j v) t)).drewN n := by
  have h := World.setCell_alloc_at (w := (w.alloc A).alloc B) C t (w.heap.size + 1 + 1) j v (by rw [size_al, size_al])
  rw [← h]
  rfl

/-- the products that the plane wave takes stay small -/
theorem small_mul (u : Int) (x : Nat) (hu : within u = true) (hx : x < 8) : -512 ≤ u * (x : Int) ∧ u * (x : Int) ≤ 512 := by
  simp only [within, Bool.and_eq_true, decide_eq_true_eq] at hu
  obtain ⟨h1, h2⟩ := hu
  match x, hx with
  | 0, _ => omega
  | 1, _ => omega
  | 2, _ => omega
  | 3, _ => omega
  | 4, _ => omega
  | 5, _ => omega
  | 6, _ => omega
  | 7, _ => omega

set_option maxHeartbeats 400000 in
theorem empty_any (n : Int) (w : World) : Calls Try.prog 82 #[.int .i64 n] w fun e w' => e = .returned (.agg (pic n zc)) ∧ w' = w.alloc (.cells (pic n zc) 32) := by
  have hz37 := (zero_of_info info37').1
  have HS : Hid ((Try.prog.info? 32).map (·.size) = some (pic n zc).size) := Lib.hid (by rw [pic_size n zc zc_size]; exact (zero_of_info info37').2)
  have HZS : Hid ((pic 0 zc).size = (pic n zc).size) := Lib.hid (by rw [pic_size n zc zc_size, pic_size 0 zc zc_size])
  have H1 := Lib.hid (zc_one n)
  have hne : ¬ pic 0 zc = #[] := fun e => by
    have := congrArg Array.size e
    rw [pic_size 0 zc zc_size] at this
    simp at this
  have HB := Lib.hid (pic_set0 0 n zc)
  generalize pic n zc = B at *
  generalize pic 0 zc = Z at *
  have HS2 : Hid ((Try.prog.info? 32).map (·.size) = some (Z.setIfInBounds 0 (Value.int .i64 n)).size) := Lib.hid (by rw [HB.out]; exact HS.out)
  have HZ2 : Hid (Z.size = (Z.setIfInBounds 0 (Value.int .i64 n)).size) := Lib.hid (by rw [HB.out]; exact HZS.out)
  have H2 : Hid ((Z.setIfInBounds 0 (Value.int .i64 n)).all (·.oneCell') = true) := Lib.hid (by rw [HB.out]; exact H1.out)
  go_enter Try.func82, Try.ntmps82
  go_wp2_with (refine wpList_store_row rfl 32 (.tmp 2) (.tmp 4) rfl w.heap.size (Z.setIfInBounds 0 (Value.int .i64 n)) rfl rfl 32 Z (h1_0 _ _) HS2.out HZ2.out H2.out ?_; rw [World.setRow_alloc_new, HB.out])
  exact bodyPost_ret (v := .agg B) (results_cell_row (fn := Try.f82) (p := 2) (ty := 32) rfl _ _ w.heap.size 32 B (0, 0) _ rfl (h1_0 _ _) Try.underlying32 rfl HS.out) rfl ⟨rfl, rfl⟩

end Go.Proofs.Ytdmeinaonliphaa

namespace Go.Proofs.Ytdmeinaonliphaa
open Go Go.RowKit

theorem results_row_tmp {P : Program} {fn : Func} {p u : Tmp} {ty : TypeId} (h : fn.results = #[.cell p ty, .tmp u]) (tmps : Array Value) (w : World) (g : Nat) (t : TypeId) (cs : Array Value) (fr : Nat × Nat) (d : TypeDesc)
    (hp : tmps.getD p undef = .pointer (some ⟨g, 0, none⟩)) (hg : w.heap[g]? = some (.cells cs t fr))
    (hu : P.underlying ty = some d) (hd : (match d with | .struct _ | .array _ _ => true | _ => false) = true) (hi : (P.info? ty).map (·.size) = some cs.size) :
    (results fn tmps).run P w = .ok (.tuple #[.agg cs, tmps.getD u undef]) w := by
  have hp' : tmps[p]?.getD undef = .pointer (some ⟨g, 0, none⟩) := by simpa using hp
  rw [results_cell_tmp h]
  simp [asAddr, hp', run_loadVar_row w g t ty cs fr d hg hu hd hi]

theorem pic_ne : ¬ pic 0 zc = #[] := fun e => by
  have := congrArg Array.size e
  rw [pic_size 0 zc zc_size] at this
  simp at this

/-- a whole row is loaded, behind a guard that lets it by -/
theorem wpList_load_row_g {P : Program} {ops : Array Oper} {rest : List Oper} {o : Oper} {a : Act} {w : World} {Q : Exit → Act → World → Prop} (hgd : Region.wanted o (yielded ops a.tmps) = true) (ty : TypeId) (x : Operand) (ho : o.op = .load ty x)
    (g : Nat) (hx : a.eval x = .pointer (some ⟨g, 0, none⟩)) (t : TypeId) (cs : Array Value) (fr : Nat × Nat) (d : TypeDesc) (hg : w.heap[g]? = some (.cells cs t fr))
    (hu : P.underlying ty = some d) (hd : (match d with | .struct _ | .array _ _ => true | _ => false) = true) (hi : (P.info? ty).map (·.size) = some cs.size)
    (h : wpList P ops Q rest (a.put o.dst (.agg cs)) w) : wpList P ops Q (o :: rest) a w :=
  wpList_step fun _ hK => by rw [if_pos hgd]; exact wp_load_row ty x ho g hx t cs fr d hg hu hd hi (hK _ _ h)
end Go.Proofs.Ytdmeinaonliphaa
