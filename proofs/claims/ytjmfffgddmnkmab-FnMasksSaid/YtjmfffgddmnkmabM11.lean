/- What is known of the phases, and spec.PhaseOf. Condition: none. Plain facts on the cells of a plane wave, filled row by row. Condition: none. -/
import Derived.Test.YtjmfffgddmnkmabM10
import Derived.Test.YtjmfffgddmnkmabM5
namespace Go.Proofs.Ytjmfffgddmnkmab
open Go

def memoPhase (g : FuncId) (args : Array Value) : Option Value :=
  if g = 125 ∨ g = 95 then
    match args.toList with
    | [.int .i64 k] => some (.complex .f32 (tre (k % 64).toNat) (tim (k % 64).toNat))
    | _ => none
  else none

theorem known_phase : Known Try.prog memoPhase := by
  intro g args v h w
  unfold memoPhase at h
  split at h
  · rename_i hg
    split at h
    · rename_i k hl
      obtain ⟨l⟩ := args
      simp only at hl
      subst hl
      cases h
      rcases hg with rfl | rfl
      · exact spec_phase k w
      · exact impl_phase k w
    · cases h
  · cases h

end Go.Proofs.Ytjmfffgddmnkmab

namespace Go.Proofs.Ytjmfffgddmnkmab
open Go Go.RowKit

/-- 64 complex zeros -/
def zc : Array Value := Array.replicate 64 (.complex .f32 0 0)
/-- the part of a turn at the row y and the column x -/
def idx (c : Int) (u v : Int) (y x : Nat) : Nat := (((u * x + v * y) * c) % 64).toNat
/-- the parts of a turn, cell by cell -/
def parts (n : Nat) (c u v : Int) (i : Nat) : Nat := idx c u v (i / n) (i % n)
/-- the first k cells filled with phases, over zeros -/
def fill (f : Nat → Nat) (k : Nat) : Array Value := Array.ofFn (n := 64) fun i => if i.val < k then .complex .f32 (tre (f i.val)) (tim (f i.val)) else .complex .f32 0 0
theorem fill_get (f : Nat → Nat) (k i : Nat) : (fill f k)[i]? = if i < 64 then some (if i < k then .complex .f32 (tre (f i)) (tim (f i)) else .complex .f32 0 0) else none := by
  simp only [fill, Array.getElem?_ofFn]
  by_cases h : i < 64 <;> simp [h]
theorem fill_size (f : Nat → Nat) (k : Nat) : (fill f k).size = 64 := by simp [fill]
theorem fill_zero (f : Nat → Nat) : fill f 0 = zc := by
  apply Array.ext_getElem?
  intro i
  rw [fill_get]
  simp only [zc, Array.getElem?_replicate]
  split <;> simp
theorem pic_fill (s : Int) (f : Nat → Nat) (k : Nat) (hk : k < 64) : (pic s (fill f k)).setIfInBounds (1 + k) (.complex .f32 (tre (f k)) (tim (f k))) = pic s (fill f (k + 1)) := by
  apply Array.ext_getElem?
  intro i
  rw [Array.getElem?_setIfInBounds, pic_size _ _ (fill_size f k)]
  cases i with
  | zero => rw [if_neg (by omega), pic_zero, pic_zero]
  | succ i =>
    rw [pic_succ, pic_succ, fill_get, fill_get]
    by_cases h1 : 1 + k = i + 1
    · obtain rfl : k = i := by omega
      simp [hk, show 1 + k = k + 1 by omega]
    · rw [if_neg h1]
      by_cases h2 : i < k
      · simp [h2, show i < k + 1 by omega]
      · simp [h2, show ¬ i < k + 1 by omega]
theorem fill_old (s : Int) (f : Nat → Nat) (k : Nat) (hk : k < 64) : (pic s (fill f k))[1 + k]? = some (.complex .f32 0 0) := by
  rw [Nat.add_comm, pic_succ, fill_get, if_pos hk, if_neg (by omega)]
theorem tab_fin : ∀ m, m < 64 → fin (tre m) = true ∧ fin (tim m) = true := by decide
theorem parts_lt (n : Nat) (c u v : Int) (i : Nat) : parts n c u v i < 64 := by
  unfold parts idx
  omega
theorem fill_cells (f : Nat → Nat) (hf : ∀ i, f i < 64) (k : Nat) : Cells (fill f k) := by
  refine ⟨fill_size f k, fun i hi => ?_⟩
  rw [fill_get, if_pos hi]
  by_cases h : i < k
  · obtain ⟨h1, h2⟩ := tab_fin (f i) (hf i)
    exact ⟨_, _, h1, h2, by rw [if_pos h]⟩
  · exact ⟨0, 0, by decide, by decide, by rw [if_neg h]⟩
theorem fill_one (s : Int) (f : Nat → Nat) (k : Nat) : (pic s (fill f k)).all (·.oneCell') = true := by
  rw [Array.all_eq_true_iff_forall_mem]
  intro v hv
  obtain ⟨i, hi, he⟩ := Array.mem_iff_getElem.1 hv
  have h := Array.getElem?_eq_getElem hi
  rw [he] at h
  cases i with
  | zero => rw [pic_zero] at h; cases h; rfl
  | succ i =>
    rw [pic_succ, fill_get] at h
    split at h
    · cases h
      split <;> rfl
    · cases h
theorem info37' : (Try.prog.info? 30).map (fun i => (i.zero, i.size)) = some (some (.agg (pic 0 zc)), 65) := info37
theorem zc_size : zc.size = 64 := by simp [zc]
theorem zc_one (s : Int) : (pic s zc).all (·.oneCell') = true := by rw [← fill_zero (fun _ => 0)]; exact fill_one _ _ _
theorem setRow_al3 (w : World) (A B : Obj) (Z cs : Array Value) (t : TypeId) : (((w.alloc A).alloc B).alloc (.cells Z t)).setRow (w.heap.size + 1 + 1) cs = ((w.alloc A).alloc B).alloc (.cells cs t) := by
  have h := World.setRow_alloc_new ((w.alloc A).alloc B) Z cs t
  rwa [size_al, size_al] at h
theorem setCell_al3 (w : World) (A B : Obj) (C : Array Value) (t : TypeId) (n j : Nat) (v : Value) :
    ((((w.alloc A).alloc B).alloc (.cells C t)).drewN n).setCell ⟨w.heap.size + 1 + 1, j, none⟩ v = (((w.alloc A).alloc B).alloc (.cells (C.setIfInBounds j v) t)).drewN n := by
  have h := World.setCell_alloc_at (w := (w.alloc A).alloc B) C t (w.heap.size + 1 + 1) j v (by rw [size_al, size_al])
  rw [← h]
  rfl

/-- the products that the plane wave takes stay small -/
theorem small_mul (u : Int) (x : Nat) (hu : within u = true) (hx : x < 8) : -512 ≤ u * (x : Int) ∧ u * (x : Int) ≤ 512 := by
  simp only [within, Bool.and_eq_true, decide_eq_true_eq] at hu
  obtain ⟨h1, h2⟩ := hu
  match x, hx with
  | 0, _ => omega
  | 1, _ => omega
  | 2, _ => omega
  | 3, _ => omega
  | 4, _ => omega
  | 5, _ => omega
  | 6, _ => omega
  | 7, _ => omega

set_option maxHeartbeats 400000 in
theorem empty_any (n : Int) (w : World) : Calls Try.prog 106 #[.int .i64 n] w fun e w' => e = .returned (.agg (pic n zc)) ∧ w' = w.alloc (.cells (pic n zc) 30) := by
  have hz37 := (zero_of_info info37').1
  have HS : Hid ((Try.prog.info? 30).map (·.size) = some (pic n zc).size) := Lib.hid (by rw [pic_size n zc zc_size]; exact (zero_of_info info37').2)
  have HZS : Hid ((pic 0 zc).size = (pic n zc).size) := Lib.hid (by rw [pic_size n zc zc_size, pic_size 0 zc zc_size])
  have H1 := Lib.hid (zc_one n)
  have hne : ¬ pic 0 zc = #[] := fun e => by
    have := congrArg Array.size e
    rw [pic_size 0 zc zc_size] at this
    simp at this
  have HB := Lib.hid (pic_set0 0 n zc)
  generalize pic n zc = B at *
  generalize pic 0 zc = Z at *
  have HS2 : Hid ((Try.prog.info? 30).map (·.size) = some (Z.setIfInBounds 0 (Value.int .i64 n)).size) := Lib.hid (by rw [HB.out]; exact HS.out)
  have HZ2 : Hid (Z.size = (Z.setIfInBounds 0 (Value.int .i64 n)).size) := Lib.hid (by rw [HB.out]; exact HZS.out)
  have H2 : Hid ((Z.setIfInBounds 0 (Value.int .i64 n)).all (·.oneCell') = true) := Lib.hid (by rw [HB.out]; exact H1.out)
  go_enter Try.func106, Try.ntmps106
  go_wp2_with (refine wpList_store_row rfl 30 (.tmp 2) (.tmp 4) rfl w.heap.size (Z.setIfInBounds 0 (Value.int .i64 n)) rfl rfl 30 Z (h1_0 _ _) HS2.out HZ2.out H2.out ?_; rw [World.setRow_alloc_new, HB.out])
  exact bodyPost_ret (v := .agg B) (results_cell_row (fn := Try.f106) (p := 2) (ty := 30) rfl _ _ w.heap.size 30 B (0, 0) _ rfl (h1_0 _ _) Try.underlying30 rfl HS.out) rfl ⟨rfl, rfl⟩

end Go.Proofs.Ytjmfffgddmnkmab
