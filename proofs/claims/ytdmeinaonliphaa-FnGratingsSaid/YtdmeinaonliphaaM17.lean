/- The program finds a wave of finite cells finite. Condition: 64 finite cells. Plain facts on waves that are filled cell by cell by a rule. Condition: none. The model's way to ask whether a number lies within two. Condition: none. Plain facts for chapter 3: distances, centres, cells that are left out, and the model's ways to ask for them. Condition: none. -/
import Derived.Test.YtdmeinaonliphaaM2
import Derived.Test.YtdmeinaonliphaaM16
namespace Go.Proofs.Ytdmeinaonliphaa
open Go Go.RowKit

/-- a wave of 64 finite complex numbers -/
def FinW (s : Int) (D : Array Value) : Prop := D.size = 65 ∧ D[0]? = some (.int .i64 s) ∧ ∀ k, k < 64 → ∃ x y, D[1 + k]? = some (.complex .f32 x y) ∧ (fin x && fin y) = true
theorem finW_of (s : Int) (zs : Array Value) (h : Cells zs) : FinW s (pic s zs) := by
  refine ⟨pic_size _ _ h.1, pic_zero _ _, fun k hk => ?_⟩
  obtain ⟨x, y, hx, hy, hz⟩ := h.2 k hk
  exact ⟨x, y, by rw [Nat.add_comm, pic_succ]; exact hz, by rw [hx, hy]; rfl⟩
theorem finW_one {s : Int} {D : Array Value} (h : FinW s D) : D.all (·.oneCell') = true := by
  rw [Array.all_eq_true_iff_forall_mem]
  intro v hv
  obtain ⟨i, hi, he⟩ := Array.mem_iff_getElem.1 hv
  have hg := Array.getElem?_eq_getElem hi
  rw [he] at hg
  cases i with
  | zero => rw [h.2.1] at hg; cases hg; rfl
  | succ i =>
    rw [h.1] at hi
    obtain ⟨x, y, hz, _⟩ := h.2.2 i (by omega)
    rw [Nat.add_comm, hg] at hz
    cases hz
    rfl

set_option maxRecDepth 100000 in
set_option maxHeartbeats 1000000 in
theorem areComplex_yes (b : Nat) (s : Int) (D : Array Value) (h : FinW s D) (w : World) (hb : w.heap[b]? = some (.cells D 32 (0, 0))) :
    Calls Try.prog 125 #[.slice (some ⟨b, 1, none⟩) 64 64] w fun e w' => e = .returned (.bool true) ∧ ∃ n, w' = w.drewN n := by
  have HD := Lib.hid h.2.2
  have HB := Lib.hid hb
  clear h hb
  go_enter Try.func125, Try.ntmps125
  go_wp2
  go_loopw [7] (fun i wr => ∃ k n : Nat, k ≤ 64 ∧ i = .int .i64 k ∧ wr = w.drewN n) (fun i _ => 64 - (intOf i).toNat)
  case atStart => exact ⟨0, 0, by omega, rfl, rfl⟩
  case round =>
    obtain ⟨k, n, hk, rfl, rfl⟩ := hrel
    by_cases hlt : k < 64
    · obtain ⟨x, y, hzk, hf⟩ := HD.out k hlt
      have c1 : (w.drewN n).cell? ⟨b, 1 + k, none⟩ = some (.complex .f32 x y) := by
        rw [World.cell?_drewN, cell_of_row _ _ _ D 32 (0, 0) HB.out]; exact hzk
      go_wp2_with (go_at_call 78; refine (isComplex_any _ _ _).mono ?_; rw [hf]; rintro e w' ⟨rfl, n', rfl⟩)
      exact ⟨⟨k + 1, n + n', by omega, by go_num, rfl⟩, by simp [intOf]; omega⟩
    · obtain rfl : k = 64 := by omega
      go_wp2
      go_ret
      exact ⟨rfl, n, rfl⟩

set_option maxRecDepth 100000 in
set_option maxHeartbeats 1000000 in
theorem finite_wave (s : Int) (D : Array Value) (h : FinW s D) (w : World) :
    Calls Try.prog 109 #[.agg D] w fun e w' => e = .returned (.tuple #[.agg D, .int .i64 0]) ∧ Below w.heap.size w w' := by
  have hz37 := (zero_of_info info37').1
  have HS37 := Lib.hid (zero_of_info info37').2
  have HZ37 : Hid ((pic 0 zc).size = 65) := Lib.hid (pic_size 0 zc zc_size)
  generalize pic 0 zc = Z at *
  have HDI : Hid ((Try.prog.info? 32).map (·.size) = some D.size) := Lib.hid (by rw [h.1]; exact HS37.out)
  have HZD : Hid (Z.size = D.size) := Lib.hid (by rw [h.1]; exact HZ37.out)
  have H1 := Lib.hid (finW_one h)
  have HA := Lib.hid (areComplex_yes w.heap.size s D h ((w.alloc (.cells D 32)).alloc (.cells Z 32)) (h2_0 _ _ _))
  clear h
  go_enter Try.func109, Try.ntmps109
  go_wp2_with fail
  refine HA.out.mono ?_
  rintro e w1 ⟨rfl, n, rfl⟩
  have HH1 : Hid ((((w.alloc (.cells D 32)).alloc (.cells Z 32)).drewN n).heap[w.heap.size + 1]? = some (.cells Z 32)) := Lib.hid (h2_1 _ _ _)
  have HH0 : Hid ((((w.alloc (.cells D 32)).alloc (.cells Z 32)).drewN n).heap[w.heap.size]? = some (.cells D 32)) := Lib.hid (h2_0 _ _ _)
  go_wp2_with (first | (refine wpList_load_row rfl 32 (.tmp 1) rfl w.heap.size rfl 32 D (0, 0) _ HH0.out Try.underlying32 rfl HDI.out ?_) | (refine wpList_store_row rfl 32 (.tmp 2) (.tmp 9) rfl (w.heap.size + 1) D rfl rfl 32 Z HH1.out HDI.out HZD.out H1.out ?_))
  refine bodyPost_ret (v := .tuple #[.agg D, .int .i64 0]) (results_row_tmp (fn := Try.f109) (p := 2) (u := 3) (ty := 32) rfl _ _ (w.heap.size + 1) 32 D (0, 0) _ rfl (setRow_heap _ _ _ _ _ _ HH1.out) Try.underlying32 rfl HDI.out) rfl ⟨rfl, ?_⟩
  exact below_setRow (below_drewN (below_al2 _ _ _) _) (by omega) _
end Go.Proofs.Ytdmeinaonliphaa

namespace Go.Proofs.Ytdmeinaonliphaa
open Go Go.RowKit

/-- the first k cells by a rule, the others 0 -/
def gf (F : Nat → Nat × Nat) (k : Nat) : Array Value := Array.ofFn (n := 64) fun i => if i.val < k then .complex .f32 (F i.val).1 (F i.val).2 else .complex .f32 0 0
theorem gf_get (F : Nat → Nat × Nat) (k i : Nat) : (gf F k)[i]? = if i < 64 then some (if i < k then .complex .f32 (F i).1 (F i).2 else .complex .f32 0 0) else none := by
  simp only [gf, Array.getElem?_ofFn]
  by_cases h : i < 64 <;> simp [h]
theorem gf_size (F : Nat → Nat × Nat) (k : Nat) : (gf F k).size = 64 := by simp [gf]
theorem gf_zero (F : Nat → Nat × Nat) : gf F 0 = zc := by
  apply Array.ext_getElem?
  intro i
  rw [gf_get]
  simp only [zc, Array.getElem?_replicate]
  split <;> simp
theorem gf_set (s : Int) (F : Nat → Nat × Nat) (k : Nat) (hk : k < 64) : (pic s (gf F k)).setIfInBounds (1 + k) (.complex .f32 (F k).1 (F k).2) = pic s (gf F (k + 1)) := by
  apply Array.ext_getElem?
  intro i
  rw [Array.getElem?_setIfInBounds, pic_size _ _ (gf_size F k)]
  cases i with
  | zero => rw [if_neg (by omega), pic_zero, pic_zero]
  | succ i =>
    rw [pic_succ, pic_succ, gf_get, gf_get]
    by_cases h1 : 1 + k = i + 1
    · obtain rfl : k = i := by omega
      simp [hk, show 1 + k = k + 1 by omega]
    · rw [if_neg h1]
      by_cases h2 : i < k
      · simp [h2, show i < k + 1 by omega]
      · simp [h2, show ¬ i < k + 1 by omega]
theorem gf_old (s : Int) (F : Nat → Nat × Nat) (k : Nat) (hk : k < 64) : (pic s (gf F k))[1 + k]? = some (.complex .f32 0 0) := by
  rw [Nat.add_comm, pic_succ, gf_get, if_pos hk, if_neg (by omega)]
theorem gf_fin (s : Int) (F : Nat → Nat × Nat) (hF : ∀ i, (fin (F i).1 && fin (F i).2) = true) (k : Nat) : FinW s (pic s (gf F k)) := by
  refine ⟨pic_size _ _ (gf_size _ _), pic_zero _ _, fun i hi => ?_⟩
  rw [Nat.add_comm, pic_succ, gf_get, if_pos hi]
  by_cases h : i < k
  · exact ⟨_, _, by rw [if_pos h], hF i⟩
  · exact ⟨0, 0, by rw [if_neg h], by decide⟩
theorem cell_al2 (w : World) (A B : Obj) (n : Nat) (p : Addr) (v : Value) (h : w.cell? p = some v) : (((w.alloc A).alloc B).drewN n).cell? p = some v := by
  have hb := World.block_lt_of_cell? w _ h
  rw [World.cell?_drewN, World.cell?_alloc_lt _ _ _ (by rw [size_al]; omega), World.cell?_alloc_lt _ _ _ hb, h]
theorem side_nat (s : Nat) (h : side s = true) : s = 1 ∨ s = 2 ∨ s = 4 ∨ s = 8 := by
  have := side_yes s h
  omega
theorem place_lt (s y x : Nat) (h : side s = true) (hy : y < s) (hx : x < s) : s * y + x < 64 ∧ s * y ≤ 56 := by
  rcases side_nat s h with rfl | rfl | rfl | rfl <;> omega
theorem sq_le (s : Nat) (h : side s = true) : s * s ≤ 64 := by
  rcases side_nat s h with rfl | rfl | rfl | rfl <;> omega

end Go.Proofs.Ytdmeinaonliphaa

namespace Go.Proofs.Ytdmeinaonliphaa
open Go Go.RowKit

def inside (k a b : Int) : Bool := decide (a ≤ k) && decide (k ≤ b)

set_option maxRecDepth 100000 in
set_option maxHeartbeats 400000 in
theorem l01In_gen (k a b : Int) (w : World) : Calls Try.prog 75 #[.int .i64 k, .int .i64 a, .int .i64 b] w fun e w' => e = .returned (.bool (inside k a b)) ∧ w = w' := by
  by_cases h1 : a ≤ k
  · by_cases h2 : k ≤ b
    · have e : inside k a b = true := by simp [inside, h1, h2]
      rw [e]
      go_enter Try.func75, Try.ntmps75
      go_wp2
      go_ret
      exact ⟨rfl, rfl⟩
    · have e : inside k a b = false := by simp [inside, h2]
      rw [e]
      go_enter Try.func75, Try.ntmps75
      go_wp2
      go_ret
      exact ⟨rfl, rfl⟩
  · have e : inside k a b = false := by simp [inside, h1]
    rw [e]
    go_enter Try.func75, Try.ntmps75
    go_wp2
    go_ret
    exact ⟨rfl, rfl⟩

end Go.Proofs.Ytdmeinaonliphaa

namespace Go.Proofs.Ytdmeinaonliphaa
open Go Go.RowKit

/-- the number 1 as a cell -/
def one32 : Nat × Nat := (1065353216, 0)
def mark (b : Bool) : Nat × Nat := if b then one32 else (0, 0)
theorem mark_fin (b : Bool) : (fin (mark b).1 && fin (mark b).2) = true := by cases b <;> decide
theorem gf_skip (F : Nat → Nat × Nat) (k : Nat) (h : F k = (0, 0)) : gf F k = gf F (k + 1) := by
  apply Array.ext_getElem?
  intro i
  rw [gf_get, gf_get]
  by_cases e : i = k
  · subst e
    simp [h]
  · have : (i < k + 1) = (i < k) := by apply propext; omega
    simp [this]
theorem gf_skips (F : Nat → Nat × Nat) (a b : Nat) (hab : a ≤ b) (h : ∀ i, a ≤ i → i < b → F i = (0, 0)) : gf F a = gf F b := by
  induction b with
  | zero => rw [show a = 0 by omega]
  | succ b ih =>
    by_cases e : a = b + 1
    · rw [e]
    · rw [ih (by omega) (fun i h1 h2 => h i h1 (by omega)), gf_skip F b (h b (by omega) (by omega))]
theorem gf_wav_one (s : Int) (F : Nat → Nat × Nat) (k : Nat) : (pic s (gf F k)).all (·.oneCell') = true := by
  rw [Array.all_eq_true_iff_forall_mem]
  intro v hv
  obtain ⟨i, hi, he⟩ := Array.mem_iff_getElem.1 hv
  have h := Array.getElem?_eq_getElem hi
  rw [he] at h
  cases i with
  | zero => rw [pic_zero] at h; cases h; rfl
  | succ i =>
    rw [pic_succ, gf_get] at h
    split at h
    · cases h
      split <;> rfl
    · cases h
theorem gf_cells (F : Nat → Nat × Nat) (hF : ∀ i, (fin (F i).1 && fin (F i).2) = true) (k : Nat) : Cells (gf F k) := by
  refine ⟨gf_size _ _, fun i hi => ?_⟩
  have h := hF i
  rw [Bool.and_eq_true] at h
  by_cases hk : i < k
  · exact ⟨_, _, h.1, h.2, by rw [gf_get, if_pos hi, if_pos hk]⟩
  · exact ⟨0, 0, by decide, by decide, by rw [gf_get, if_pos hi, if_neg hk]⟩
theorem zc_cells3 : Cells zc := by
  rw [← gf_zero (fun _ => (0, 0))]
  exact gf_cells _ (fun _ => by decide) 0
theorem tab_fin2 (m : Nat) (h : m < 64) : (fin (tre m) && fin (tim m)) = true := by
  obtain ⟨a, b⟩ := tab_fin m h
  rw [a, b]
  rfl
/-- row and column of a place -/
theorem place_at (s y x : Nat) (hx : x < s) : (s * y + x) / s = y ∧ (s * y + x) % s = x := by
  have h0 : 0 < s := by omega
  refine ⟨?_, ?_⟩
  · rw [Nat.mul_add_div h0, Nat.div_eq_of_lt hx, Nat.add_zero]
  · rw [Nat.mul_add_mod, Nat.mod_eq_of_lt hx]

/-- the distance of a cell from a centre -/
def dist (y x : Nat) (v u : Int) : Int := (2 * y - v) * (2 * y - v) + (2 * x - u) * (2 * x - u)
theorem sq_small (e : Int) (h : -14 ≤ e ∧ e ≤ 14) : 0 ≤ e * e ∧ e * e ≤ 196 := by
  have h1 : (e.natAbs * e.natAbs : Nat) ≤ 14 * 14 := Nat.mul_le_mul (by omega) (by omega)
  have h2 : ((e.natAbs * e.natAbs : Nat) : Int) = e * e := Int.natAbs_mul_self
  omega
theorem mul_small (k t : Int) (K T : Nat) (hk : -(K : Int) ≤ k ∧ k ≤ K) (ht : 0 ≤ t ∧ t < T) : -((K * T : Nat) : Int) ≤ k * t ∧ k * t ≤ ((K * T : Nat) : Int) := by
  have h1 : k.natAbs * t.natAbs ≤ K * T := Nat.mul_le_mul (by omega) (by omega)
  have h2 : (k * t).natAbs = k.natAbs * t.natAbs := Int.natAbs_mul k t
  omega
theorem dist_small (y x : Nat) (v u : Int) (hy : y < 8) (hx : x < 8) (hv : 0 ≤ v ∧ v ≤ 14) (hu : 0 ≤ u ∧ u ≤ 14) : 0 ≤ dist y x v u ∧ dist y x v u ≤ 392 := by
  have h1 := sq_small (2 * (y : Int) - v) (by omega)
  have h2 := sq_small (2 * (x : Int) - u) (by omega)
  unfold dist
  omega

theorem dist_any (y x : Nat) (v u : Int) (hy : y < 8) (hx : x < 8) (hv : 0 ≤ v ∧ v ≤ 14) (hu : 0 ≤ u ∧ u ≤ 14) (w : World) :
    Calls Try.prog 94 #[.int .i64 y, .int .i64 x, .int .i64 v, .int .i64 u] w fun e w' => e = .returned (.int .i64 (dist y x v u)) ∧ w = w' := by
  have h1 := sq_small (2 * (y : Int) - v) (by omega)
  have h2 := sq_small (2 * (x : Int) - u) (by omega)
  have e1 : IntKind.i64.wrap (2 * (y : Int)) = 2 * y := IntWalk.i64_in _ (by omega)
  have e2 : IntKind.i64.wrap (2 * (x : Int)) = 2 * x := IntWalk.i64_in _ (by omega)
  have e3 : IntKind.i64.wrap (2 * (y : Int) - v) = 2 * y - v := IntWalk.i64_in _ (by omega)
  have e4 : IntKind.i64.wrap (2 * (x : Int) - u) = 2 * x - u := IntWalk.i64_in _ (by omega)
  have e5 : IntKind.i64.wrap ((2 * (y : Int) - v) * (2 * (y : Int) - v)) = (2 * (y : Int) - v) * (2 * (y : Int) - v) := IntWalk.i64_in _ (by omega)
  have e6 : IntKind.i64.wrap ((2 * (x : Int) - u) * (2 * (x : Int) - u)) = (2 * (x : Int) - u) * (2 * (x : Int) - u) := IntWalk.i64_in _ (by omega)
  have e7 : IntKind.i64.wrap ((2 * (y : Int) - v) * (2 * (y : Int) - v) + (2 * (x : Int) - u) * (2 * (x : Int) - u)) = (2 * (y : Int) - v) * (2 * (y : Int) - v) + (2 * (x : Int) - u) * (2 * (x : Int) - u) := IntWalk.i64_in _ (by omega)
  have e8 : IntKind.i64.wrap (dist y x v u) = dist y x v u := IntWalk.i64_in _ (by unfold dist; omega)
  go_enter Try.func94, Try.ntmps94
  go_wp2
  go_ret
  exact ⟨rfl, rfl⟩

def centre (n v u : Int) : Bool := side n && inside v 0 (2 * (n - 1)) && inside u 0 (2 * (n - 1))
theorem centre_any (n v u : Int) (w : World) : Calls Try.prog 93 #[.int .i64 n, .int .i64 v, .int .i64 u] w fun e w' => e = .returned (.bool (centre n v u)) ∧ w = w' := by
  unfold centre
  cases hn : side n
  · go_enter Try.func93, Try.ntmps93
    go_wp2_with (go_at_call 74; refine (l01Side_any _ _).mono ?_; rw [hn]; rintro e w' ⟨rfl, rfl⟩)
    go_ret
    exact ⟨rfl, rfl⟩
  · have hb : 1 ≤ n ∧ n ≤ 8 := by rcases side_yes n hn with rfl | rfl | rfl | rfl <;> omega
    have e1 : IntKind.i64.wrap (n - 1) = n - 1 := IntWalk.i64_in _ (by omega)
    have e2 : IntKind.i64.wrap (2 * (n - 1)) = 2 * (n - 1) := IntWalk.i64_in _ (by omega)
    cases hv : inside v 0 (2 * (n - 1))
    · go_enter Try.func93, Try.ntmps93
      go_wp2_with fail
      refine (l01Side_any _ _).mono ?_
      rw [hn]
      rintro e w' ⟨rfl, rfl⟩
      go_wp2_with fail
      refine (l01In_gen _ _ _ _).mono ?_
      rw [hv]
      rintro e w' ⟨rfl, rfl⟩
      go_wp2_with fail
      go_ret
      exact ⟨rfl, rfl⟩
    · go_enter Try.func93, Try.ntmps93
      go_wp2_with fail
      refine (l01Side_any _ _).mono ?_
      rw [hn]
      rintro e w' ⟨rfl, rfl⟩
      go_wp2_with fail
      refine (l01In_gen _ _ _ _).mono ?_
      rw [hv]
      rintro e w' ⟨rfl, rfl⟩
      go_wp2_with fail
      refine (l01In_gen _ _ _ _).mono ?_
      rintro e w' ⟨rfl, rfl⟩
      go_wp2_with fail
      go_ret
      exact ⟨by simp, rfl⟩
end Go.Proofs.Ytdmeinaonliphaa
