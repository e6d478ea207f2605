/- The phases of the program and of the model, called with any integer, are the table's entry at its remainder by 64. Condition: none. What is known of the phases, and spec.PhaseOf. Condition: none. Plain facts on the cells of a plane wave, filled row by row. Condition: none. Plain facts on results that lie in a row and a slot. Condition: none. The program finds a wave of finite cells finite. Condition: 64 finite cells. -/
import Derived.Test.YtjmfffgddmnkmacM22
import Derived.Test.YtjmfffgddmnkmacM21
import Derived.Laws.ResultCell
namespace Go.Proofs.Ytjmfffgddmnkmac
open Go
theorem toNat64 (k : Int) : ((k % 64).toNat : Int) = k % 64 ∧ (k % 64).toNat < 64 := by omega

end Go.Proofs.Ytjmfffgddmnkmac

namespace Go.Proofs.Ytjmfffgddmnkmac
open Go

end Go.Proofs.Ytjmfffgddmnkmac

namespace Go.Proofs.Ytjmfffgddmnkmac
open Go Go.RowKit

/-- 64 complex zeros -/
def zc : Array Value := Array.replicate 64 (.complex .f32 0 0)
/-- the part of a turn at the row y and the column x -/
def idx (c : Int) (u v : Int) (y x : Nat) : Nat := (((u * x + v * y) * c) % 64).toNat
/-- the parts of a turn, cell by cell -/
def parts (n : Nat) (c u v : Int) (i : Nat) : Nat := idx c u v (i / n) (i % n)
/-- the first k cells filled with phases, over zeros -/
def fill (f : Nat → Nat) (k : Nat) : Array Value := Array.ofFn (n := 64) fun i => if i.val < k then .complex .f32 (tre (f i.val)) (tim (f i.val)) else .complex .f32 0 0
theorem fill_get (f : Nat → Nat) (k i : Nat) : (fill f k)[i]? = if i < 64 then some (if i < k then .complex .f32 (tre (f i)) (tim (f i)) else .complex .f32 0 0) else none := by
  simp only [fill, Array.getElem?_ofFn]
  by_cases h : i < 64 <;> simp [h]
theorem fill_size (f : Nat → Nat) (k : Nat) : (fill f k).size = 64 := by simp [fill]
theorem fill_zero (f : Nat → Nat) : fill f 0 = zc := by
  apply Array.ext_getElem?
  intro i
  rw [fill_get]
  simp only [zc, Array.getElem?_replicate]
  split <;> simp
theorem pic_fill (s : Int) (f : Nat → Nat) (k : Nat) (hk : k < 64) : (pic s (fill f k)).setIfInBounds (1 + k) (.complex .f32 (tre (f k)) (tim (f k))) = pic s (fill f (k + 1)) := by
  apply Array.ext_getElem?
  intro i
  rw [Array.getElem?_setIfInBounds, pic_size _ _ (fill_size f k)]
  cases i with
  | zero => rw [if_neg (by omega), pic_zero, pic_zero]
  | succ i =>
    rw [pic_succ, pic_succ, fill_get, fill_get]
    by_cases h1 : 1 + k = i + 1
    · obtain rfl : k = i := by omega
      simp [hk, show 1 + k = k + 1 by omega]
    · rw [if_neg h1]
      by_cases h2 : i < k
      · simp [h2, show i < k + 1 by omega]
      · simp [h2, show ¬ i < k + 1 by omega]
theorem fill_old (s : Int) (f : Nat → Nat) (k : Nat) (hk : k < 64) : (pic s (fill f k))[1 + k]? = some (.complex .f32 0 0) := by
  rw [Nat.add_comm, pic_succ, fill_get, if_pos hk, if_neg (by omega)]
theorem tab_fin : ∀ m, m < 64 → fin (tre m) = true ∧ fin (tim m) = true := by decide
theorem parts_lt (n : Nat) (c u v : Int) (i : Nat) : parts n c u v i < 64 := by
  unfold parts idx
  omega
theorem fill_cells (f : Nat → Nat) (hf : ∀ i, f i < 64) (k : Nat) : Cells (fill f k) := by
  refine ⟨fill_size f k, fun i hi => ?_⟩
  rw [fill_get, if_pos hi]
  by_cases h : i < k
  · obtain ⟨h1, h2⟩ := tab_fin (f i) (hf i)
    exact ⟨_, _, h1, h2, by rw [if_pos h]⟩
  · exact ⟨0, 0, by decide, by decide, by rw [if_neg h]⟩
theorem fill_one (s : Int) (f : Nat → Nat) (k : Nat) : (pic s (fill f k)).all (·.oneCell') = true := by
  rw [Array.all_eq_true_iff_forall_mem]
  intro v hv
  obtain ⟨i, hi, he⟩ := Array.mem_iff_getElem.1 hv
  have h := Array.getElem?_eq_getElem hi
  rw [he] at h
  cases i with
  | zero => rw [pic_zero] at h; cases h; rfl
  | succ i =>
    rw [pic_succ, fill_get] at h
    split at h
    · cases h
      split <;> rfl
    · cases h
theorem info37' : (Try.prog.info? 33).map (fun i => (i.zero, i.size)) = some (some (.agg (pic 0 zc)), 65) := info37
theorem zc_size : zc.size = 64 := by simp [zc]
theorem zc_one (s : Int) : (pic s zc).all (·.oneCell') = true := by rw [← fill_zero (fun _ => 0)]; exact fill_one _ _ _
theorem setRow_al3 (w : World) (A B : Obj) (Z cs : Array Value) (t : TypeId) : (((w.alloc A).alloc B).alloc (.cells Z t)).setRow (w.heap.size + 1 + 1) cs = ((w.alloc A).alloc B).alloc (.cells cs t) := by
  have h := World.setRow_alloc_new ((w.alloc A).alloc B) Z cs t
  rwa [size_al, size_al] at h
theorem setCell_al3 (w : World) (A B : Obj) (C : Array Value) (t : TypeId) (n j : Nat) (v : Value) :
    ((((w.alloc A).alloc B).alloc (.cells C t)).drewN n).setCell ⟨w.heap.size + 1 + 1, j, none⟩ v = (((w.alloc A).alloc B).alloc (.cells (C.setIfInBounds j v) t)).drewN n := by
  have h := World.setCell_alloc_at (w := (w.alloc A).alloc B) C t (w.heap.size + 1 + 1) j v (by rw [size_al, size_al])
  rw [← h]
  rfl

/-- the products that the plane wave takes stay small -/
theorem small_mul (u : Int) (x : Nat) (hu : within u = true) (hx : x < 8) : -512 ≤ u * (x : Int) ∧ u * (x : Int) ≤ 512 := by
  simp only [within, Bool.and_eq_true, decide_eq_true_eq] at hu
  obtain ⟨h1, h2⟩ := hu
  match x, hx with
  | 0, _ => omega
  | 1, _ => omega
  | 2, _ => omega
  | 3, _ => omega
  | 4, _ => omega
  | 5, _ => omega
  | 6, _ => omega
  | 7, _ => omega

set_option maxHeartbeats 400000 in
theorem empty_any (n : Int) (w : World) : Calls Try.prog 52 #[.int .i64 n] w fun e w' => e = .returned (.agg (pic n zc)) ∧ w' = w.alloc (.cells (pic n zc) 33) := by
  have hz37 := (zero_of_info info37').1
  have HS : Hid ((Try.prog.info? 33).map (·.size) = some (pic n zc).size) := Lib.hid (by rw [pic_size n zc zc_size]; exact (zero_of_info info37').2)
  have HZS : Hid ((pic 0 zc).size = (pic n zc).size) := Lib.hid (by rw [pic_size n zc zc_size, pic_size 0 zc zc_size])
  have H1 := Lib.hid (zc_one n)
  have hne : ¬ pic 0 zc = #[] := fun e => by
    have := congrArg Array.size e
    rw [pic_size 0 zc zc_size] at this
    simp at this
  have HB := Lib.hid (pic_set0 0 n zc)
  generalize pic n zc = B at *
  generalize pic 0 zc = Z at *
  have HS2 : Hid ((Try.prog.info? 33).map (·.size) = some (Z.setIfInBounds 0 (Value.int .i64 n)).size) := Lib.hid (by rw [HB.out]; exact HS.out)
  have HZ2 : Hid (Z.size = (Z.setIfInBounds 0 (Value.int .i64 n)).size) := Lib.hid (by rw [HB.out]; exact HZS.out)
  have H2 : Hid ((Z.setIfInBounds 0 (Value.int .i64 n)).all (·.oneCell') = true) := Lib.hid (by rw [HB.out]; exact H1.out)
  go_enter Try.func52, Try.ntmps52
  go_wp2_with (refine wpList_store_row rfl 33 (.tmp 2) (.tmp 4) rfl w.heap.size (Z.setIfInBounds 0 (Value.int .i64 n)) rfl rfl 33 Z (h1_0 _ _) HS2.out HZ2.out H2.out ?_; rw [World.setRow_alloc_new, HB.out])
  exact bodyPost_ret (v := .agg B) (results_cell_row (fn := Try.f52) (p := 2) (ty := 33) rfl _ _ w.heap.size 33 B (0, 0) _ rfl (h1_0 _ _) Try.underlying33 rfl HS.out) rfl ⟨rfl, rfl⟩

end Go.Proofs.Ytjmfffgddmnkmac

namespace Go.Proofs.Ytjmfffgddmnkmac
open Go Go.RowKit

theorem results_row_tmp {P : Program} {fn : Func} {p u : Tmp} {ty : TypeId} (h : fn.results = #[.cell p ty, .tmp u]) (tmps : Array Value) (w : World) (g : Nat) (t : TypeId) (cs : Array Value) (fr : Nat × Nat) (d : TypeDesc)
    (hp : tmps.getD p undef = .pointer (some ⟨g, 0, none⟩)) (hg : w.heap[g]? = some (.cells cs t fr))
    (hu : P.underlying ty = some d) (hd : (match d with | .struct _ | .array _ _ => true | _ => false) = true) (hi : (P.info? ty).map (·.size) = some cs.size) :
    (results fn tmps).run P w = .ok (.tuple #[.agg cs, tmps.getD u undef]) w := by
  have hp' : tmps[p]?.getD undef = .pointer (some ⟨g, 0, none⟩) := by simpa using hp
  rw [results_cell_tmp h]
  simp [asAddr, hp', run_loadVar_row w g t ty cs fr d hg hu hd hi]

theorem pic_ne : ¬ pic 0 zc = #[] := fun e => by
  have := congrArg Array.size e
  rw [pic_size 0 zc zc_size] at this
  simp at this

/-- a whole row is loaded, behind a guard that lets it by -/
theorem wpList_load_row_g {P : Program} {ops : Array Oper} {rest : List Oper} {o : Oper} {a : Act} {w : World} {Q : Exit → Act → World → Prop} (hgd : Region.wanted o (yielded ops a.tmps) = true) (ty : TypeId) (x : Operand) (ho : o.op = .load ty x)
    (g : Nat) (hx : a.eval x = .pointer (some ⟨g, 0, none⟩)) (t : TypeId) (cs : Array Value) (fr : Nat × Nat) (d : TypeDesc) (hg : w.heap[g]? = some (.cells cs t fr))
    (hu : P.underlying ty = some d) (hd : (match d with | .struct _ | .array _ _ => true | _ => false) = true) (hi : (P.info? ty).map (·.size) = some cs.size)
    (h : wpList P ops Q rest (a.put o.dst (.agg cs)) w) : wpList P ops Q (o :: rest) a w :=
  wpList_step fun _ hK => by rw [if_pos hgd]; exact wp_load_row ty x ho g hx t cs fr d hg hu hd hi (hK _ _ h)
end Go.Proofs.Ytjmfffgddmnkmac

namespace Go.Proofs.Ytjmfffgddmnkmac
open Go Go.RowKit

/-- a wave of 64 finite complex numbers -/
def FinW (s : Int) (D : Array Value) : Prop := D.size = 65 ∧ D[0]? = some (.int .i64 s) ∧ ∀ k, k < 64 → ∃ x y, D[1 + k]? = some (.complex .f32 x y) ∧ (fin x && fin y) = true
theorem finW_of (s : Int) (zs : Array Value) (h : Cells zs) : FinW s (pic s zs) := by
  refine ⟨pic_size _ _ h.1, pic_zero _ _, fun k hk => ?_⟩
  obtain ⟨x, y, hx, hy, hz⟩ := h.2 k hk
  exact ⟨x, y, by rw [Nat.add_comm, pic_succ]; exact hz, by rw [hx, hy]; rfl⟩
theorem finW_one {s : Int} {D : Array Value} (h : FinW s D) : D.all (·.oneCell') = true := by
  rw [Array.all_eq_true_iff_forall_mem]
  intro v hv
  obtain ⟨i, hi, he⟩ := Array.mem_iff_getElem.1 hv
  have hg := Array.getElem?_eq_getElem hi
  rw [he] at hg
  cases i with
  | zero => rw [h.2.1] at hg; cases hg; rfl
  | succ i =>
    rw [h.1] at hi
    obtain ⟨x, y, hz, _⟩ := h.2.2 i (by omega)
    rw [Nat.add_comm, hg] at hz
    cases hz
    rfl

set_option maxRecDepth 100000 in
set_option maxHeartbeats 1000000 in
theorem areComplex_yes (b : Nat) (s : Int) (D : Array Value) (h : FinW s D) (w : World) (hb : w.heap[b]? = some (.cells D 33 (0, 0))) :
    Calls Try.prog 82 #[.slice (some ⟨b, 1, none⟩) 64 64] w fun e w' => e = .returned (.bool true) ∧ ∃ n, w' = w.drewN n := by
  have HD := Lib.hid h.2.2
  have HB := Lib.hid hb
  clear h hb
  go_enter Try.func82, Try.ntmps82
  go_wp2
  go_loopw [7] (fun i wr => ∃ k n : Nat, k ≤ 64 ∧ i = .int .i64 k ∧ wr = w.drewN n) (fun i _ => 64 - (intOf i).toNat)
  case atStart => exact ⟨0, 0, by omega, rfl, rfl⟩
  case round =>
    obtain ⟨k, n, hk, rfl, rfl⟩ := hrel
    by_cases hlt : k < 64
    · obtain ⟨x, y, hzk, hf⟩ := HD.out k hlt
      have c1 : (w.drewN n).cell? ⟨b, 1 + k, none⟩ = some (.complex .f32 x y) := by
        rw [World.cell?_drewN, cell_of_row _ _ _ D 33 (0, 0) HB.out]; exact hzk
      go_wp2_with (go_at_call 39; refine (isComplex_any _ _ _).mono ?_; rw [hf]; rintro e w' ⟨rfl, n', rfl⟩)
      exact ⟨⟨k + 1, n + n', by omega, by go_num, rfl⟩, by simp [intOf]; omega⟩
    · obtain rfl : k = 64 := by omega
      go_wp2
      go_ret
      exact ⟨rfl, n, rfl⟩

set_option maxRecDepth 100000 in
set_option maxHeartbeats 1000000 in
theorem finite_wave (s : Int) (D : Array Value) (h : FinW s D) (w : World) :
    Calls Try.prog 71 #[.agg D] w fun e w' => e = .returned (.tuple #[.agg D, .int .i64 0]) ∧ Below w.heap.size w w' := by
  have hz37 := (zero_of_info info37').1
  have HS37 := Lib.hid (zero_of_info info37').2
  have HZ37 : Hid ((pic 0 zc).size = 65) := Lib.hid (pic_size 0 zc zc_size)
  generalize pic 0 zc = Z at *
  have HDI : Hid ((Try.prog.info? 33).map (·.size) = some D.size) := Lib.hid (by rw [h.1]; exact HS37.out)
  have HZD : Hid (Z.size = D.size) := Lib.hid (by rw [h.1]; exact HZ37.out)
  have H1 := Lib.hid (finW_one h)
  have HA := Lib.hid (areComplex_yes w.heap.size s D h ((w.alloc (.cells D 33)).alloc (.cells Z 33)) (h2_0 _ _ _))
  clear h
  go_enter Try.func71, Try.ntmps71
  go_wp2_with fail
  refine HA.out.mono ?_
  rintro e w1 ⟨rfl, n, rfl⟩
  have HH1 : Hid ((((w.alloc (.cells D 33)).alloc (.cells Z 33)).drewN n).heap[w.heap.size + 1]? = some (.cells Z 33)) := Lib.hid (h2_1 _ _ _)
  have HH0 : Hid ((((w.alloc (.cells D 33)).alloc (.cells Z 33)).drewN n).heap[w.heap.size]? = some (.cells D 33)) := Lib.hid (h2_0 _ _ _)
  go_wp2_with (first | (refine wpList_load_row rfl 33 (.tmp 1) rfl w.heap.size rfl 33 D (0, 0) _ HH0.out Try.underlying33 rfl HDI.out ?_) | (refine wpList_store_row rfl 33 (.tmp 2) (.tmp 9) rfl (w.heap.size + 1) D rfl rfl 33 Z HH1.out HDI.out HZD.out H1.out ?_))
  refine bodyPost_ret (v := .tuple #[.agg D, .int .i64 0]) (results_row_tmp (fn := Try.f71) (p := 2) (u := 3) (ty := 33) rfl _ _ (w.heap.size + 1) 33 D (0, 0) _ rfl (setRow_heap _ _ _ _ _ _ HH1.out) Try.underlying33 rfl HDI.out) rfl ⟨rfl, ?_⟩
  exact below_setRow (below_drewN (below_al2 _ _ _) _) (by omega) _
end Go.Proofs.Ytjmfffgddmnkmac
