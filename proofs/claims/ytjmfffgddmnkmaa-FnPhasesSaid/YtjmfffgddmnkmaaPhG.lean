/- Plain facts on plane waves, flat waves and cells. Condition: none. -/
import Derived.Test.YtjmfffgddmnkmaaDCl
import Derived.Test.YtjmfffgddmnkmaaRoll
import Derived.Test.YtjmfffgddmnkmaaDPl
import Derived.Test.YtjmfffgddmnkmaaIFl
import Derived.Test.YtjmfffgddmnkmaaICe
import Derived.Test.YtjmfffgddmnkmaaImplW
namespace Go.Proofs.Ytjmfffgddmnkmaa
open Go Go.RowKit

/-- Go's == of two floats of 32 bits -/
def fe (x y : Nat) : Bool := FloatKind.f32.format.order x y == some .eq
theorem tab_self : ∀ m, m < 64 → fe (tre m) (tre m) = true ∧ fe (tim m) (tim m) = true := by decide
theorem tab_half : ∀ m, m < 64 → fe (tre ((m + 32) % 64)) (Op.negFloat .f32 (tre m)) = true ∧ fe (tim ((m + 32) % 64)) (Op.negFloat .f32 (tim m)) = true := by decide
theorem tab_turn : ∀ m, m < 64 → fe (tre ((m + 16) % 64)) (Op.negFloat .f32 (tim m)) = true ∧ fe (tim ((m + 16) % 64)) (tre m) = true := by decide
theorem tab_quarter : ∀ m, m < 64 → m % 16 = 0 → fe (tre m) 0 = true ∨ fe (tim m) 0 = true := by decide

theorem turn_facts (k : Int) : ∃ K : Int, k.tmod 64 = K ∧ (-63 ≤ K ∧ K ≤ 63) ∧ ((K + 64) % 64).toNat = (k % 64).toNat ∧ ((K + 32) % 64).toNat = ((k % 64).toNat + 32) % 64 ∧ ((K + 16) % 64).toNat = ((k % 64).toNat + 16) % 64 ∧ (K.tmod 16 = 0 → (k % 64).toNat % 16 = 0) := by
  have h1 := Int.mul_tdiv_add_tmod k 64
  have h2 : -64 < k.tmod 64 ∧ k.tmod 64 < 64 := by
    rcases Int.le_total 0 k with h | h
    · have := Int.tmod_nonneg 64 h; have := Int.tmod_lt_of_pos k (show (0 : Int) < 64 by omega); omega
    · have e : k.tmod 64 = -((-k).tmod 64) := by rw [Int.neg_tmod, Int.neg_neg]
      have := Int.tmod_nonneg 64 (show 0 ≤ -k by omega); have := Int.tmod_lt_of_pos (-k) (show (0 : Int) < 64 by omega); omega
  have h3 := Int.mul_tdiv_add_tmod (k.tmod 64) 16
  refine ⟨k.tmod 64, rfl, by omega, by omega, by omega, by omega, fun h => by omega⟩
end Go.Proofs.Ytjmfffgddmnkmaa

namespace Go.Proofs.Ytjmfffgddmnkmaa
open Go Go.RowKit

theorem zc_cells' : Cells zc := by
  rw [← fill_zero (fun _ => 0)]
  exact fill_cells _ (fun _ => by omega) 0
theorem finW_zc : FinW 0 (pic 0 zc) := finW_of 0 zc zc_cells'
theorem finW_pw (n u v : Int) : FinW n (pw n u v) := finW_of n _ (fill_cells _ (parts_lt _ _ _ _) _)

/-- the program and the model answer alike for a plane wave -/
theorem plane_both (n u v : Int) : ∃ (s : Int) (F : Array Value) (c : Int), FinW s F ∧
    (∀ w, Calls Try.prog 20 #[.int .i64 n, .int .i64 u, .int .i64 v] w fun e w' => e = .returned (.tuple #[.agg F, .int .i64 c]) ∧ Below w.heap.size w w') ∧
    (∀ w, Calls Try.prog 21 #[.int .i64 n, .int .i64 u, .int .i64 v] w fun e w' => e = .returned (.tuple #[.agg F, .int .i64 c]) ∧ Below w.heap.size w w') ∧
    (c = 2 ∨ (c = 0 ∧ side n = true ∧ within u = true ∧ within v = true ∧ F = pw n u v)) := by
  cases hn : side n
  · exact ⟨0, _, 2, finW_zc, impl_pw_no1 n u v hn, spec_pw_no1 n u v hn, .inl rfl⟩
  · cases hu : within u
    · exact ⟨0, _, 2, finW_zc, impl_pw_no2 n u v hn hu, spec_pw_no2 n u v hn hu, .inl rfl⟩
    · cases hv : within v
      · exact ⟨0, _, 2, finW_zc, impl_pw_no3 n u v hn hu hv, spec_pw_no3 n u v hn hu hv, .inl rfl⟩
      · exact ⟨n, _, 0, finW_pw n u v, impl_pw_yes n u v hn hu hv, spec_pw_yes n u v hn hu hv, .inr ⟨rfl, rfl, rfl, rfl, rfl⟩⟩

theorem okWavs_of (N : Nat) (D : Array Value) (k : Nat) (h : ∀ i, i < k → okWav N i (reAt D i) (imAt D i) = true) : okWavs N D k = true := by
  induction k with
  | zero => rfl
  | succ k ih => rw [okWavs, ih (fun i hi => h i (by omega)), h k (by omega)]; rfl

theorem at_fill (s : Int) (f : Nat → Nat) (N i : Nat) (hi : i < 64) : reAt (pic s (fill f N)) i = (if i < N then tre (f i) else 0) ∧ imAt (pic s (fill f N)) i = (if i < N then tim (f i) else 0) := by
  by_cases h : i < N
  · rw [if_pos h, if_pos h]
    exact at_of _ i _ _ (by rw [Nat.add_comm, pic_succ, fill_get, if_pos hi, if_pos h])
  · rw [if_neg h, if_neg h]
    exact at_of _ i _ _ (by rw [Nat.add_comm, pic_succ, fill_get, if_pos hi, if_neg h])

theorem isWav_pw (n u v : Int) (hn : side n = true) : isWav n (pw n u v) = true := by
  unfold isWav
  rw [hn, Bool.true_and]
  refine okWavs_of _ _ _ fun i hi => ?_
  obtain ⟨h1, h2⟩ := at_fill n (parts n.toNat (64 / n) u v) (n * n).toNat i hi
  unfold pw
  rw [h1, h2]
  unfold okWav
  by_cases h : i < (n * n).toNat
  · rw [if_pos h, if_pos h]
    obtain ⟨f1, f2⟩ := tab_fin (parts n.toNat (64 / n) u v i) (parts_lt _ _ _ _ _)
    simp [f1, f2, h]
  · rw [if_neg h, if_neg h]
    rw [show nul 0 0 = true by decide, show fin 0 = true by decide]
    simp

theorem cell_pw (n u v y x : Int) (hn : side n = true) (hy : 0 ≤ y ∧ y < n) (hx : 0 ≤ x ∧ x < n) :
    cellAns n (pw n u v) y x = .tuple #[.complex .f32 (tre (((u * x + v * y) * (64 / n)) % 64).toNat) (tim (((u * x + v * y) * (64 / n)) % 64).toNat), .int .i64 0] := by
  have hs := side_yes n hn
  have hi : (inside y 0 (n - 1) && inside x 0 (n - 1)) = true := by
    simp [inside]; omega
  unfold cellAns
  rw [isWav_pw n u v hn, if_pos rfl, if_pos hi]
  obtain ⟨y', rfl⟩ : ∃ y' : Nat, y = y' := ⟨y.toNat, by omega⟩
  obtain ⟨x', rfl⟩ : ∃ x' : Nat, x = x' := ⟨x.toNat, by omega⟩
  have key : ∀ (N : Nat), n = N → N ≤ 8 → 0 < N → y' < N → x' < N → N * y' + x' < N * N ∧ N * N ≤ 64 ∧ (N * y' + x') / N = y' ∧ (N * y' + x') % N = x' := by
    intro N _ h8 h0 h1 h2
    refine ⟨?_, ?_, ?_, ?_⟩
    · calc N * y' + x' < N * y' + N := by omega
        _ = N * (y' + 1) := by rw [Nat.mul_succ]
        _ ≤ N * N := Nat.mul_le_mul_left _ h1
    · exact Nat.le_trans (Nat.mul_le_mul h8 h8) (by omega)
    · rw [Nat.mul_add_div h0, Nat.div_eq_of_lt h2, Nat.add_zero]
    · rw [Nat.mul_add_mod, Nat.mod_eq_of_lt h2]
  obtain ⟨N, hN⟩ : ∃ N : Nat, n = N := ⟨n.toNat, by omega⟩
  subst hN
  obtain ⟨k1, k2, k3, k4⟩ := key N rfl (by omega) (by omega) (by omega) (by omega)
  have e1 : ((N : Int) * (y' : Int) + (x' : Int)).toNat = N * y' + x' := by rw [← Int.natCast_mul, ← Int.natCast_add]; rfl
  have e2 : ((N : Int) * (N : Int)).toNat = N * N := by rw [← Int.natCast_mul]; rfl
  obtain ⟨h1, h2⟩ := at_fill N (parts N (64 / (N : Int)) u v) (N * N) (N * y' + x') (by omega)
  rw [if_pos k1] at h1 h2
  have e3 : parts N (64 / (N : Int)) u v (N * y' + x') = (((u * (x' : Int) + v * (y' : Int)) * (64 / (N : Int))) % 64).toNat := by
    unfold parts idx
    rw [k3, k4]
  unfold pw
  rw [e1, e2, show (N : Int).toNat = N from rfl, h1, h2, e3]

theorem flat_finW (n : Int) (x y k : Nat) (h : (fin x && fin y) = true) : FinW n (pic n (flat x y k)) := by
  refine ⟨pic_size _ _ (flat_size _ _ _), pic_zero _ _, fun i hi => ?_⟩
  rw [Nat.add_comm, pic_succ, flat_get, if_pos hi]
  by_cases h2 : i < k
  · exact ⟨_, _, by rw [if_pos h2], h⟩
  · exact ⟨0, 0, by rw [if_neg h2], by decide⟩
theorem flat_shape (n : Int) (x y : Nat) : ∃ (s : Int) (F : Array Value) (c : Int), FinW s F ∧ flatAns n x y = .tuple #[.agg F, .int .i64 c] := by
  unfold flatAns
  cases h : fin x && fin y
  · exact ⟨0, _, _, finW_zc, rfl⟩
  · cases side n
    · exact ⟨0, _, _, finW_zc, rfl⟩
    · exact ⟨n, _, _, flat_finW n x y _ h, rfl⟩

theorem okWavs_at (N : Nat) (D : Array Value) (m k : Nat) (h : okWavs N D m = true) (hk : k < m) : (fin (reAt D k) && fin (imAt D k)) = true := by
  induction m with
  | zero => omega
  | succ m ih =>
    rw [okWavs, Bool.and_eq_true] at h
    by_cases e : k = m
    · subst e
      unfold okWav at h
      rw [Bool.and_eq_true] at h
      exact h.2.1
    · exact ih h.1 (by omega)
theorem cell_shape (s : Int) (D : Array Value) (y x : Int) : ∃ (a b : Nat) (c : Int), cellAns s D y x = .tuple #[.complex .f32 a b, .int .i64 c] ∧ fin a = true ∧ fin b = true := by
  unfold cellAns
  cases h : isWav s D
  · exact ⟨0, 0, 1, rfl, by decide, by decide⟩
  · cases hi : inside y 0 (s - 1) && inside x 0 (s - 1)
    · exact ⟨0, 0, 2, rfl, by decide, by decide⟩
    · have hs : side s = true := by unfold isWav at h; rw [Bool.and_eq_true] at h; exact h.1
      have hss : 1 ≤ s ∧ s ≤ 8 := by rcases side_yes s hs with rfl | rfl | rfl | rfl <;> omega
      rw [Bool.and_eq_true] at hi
      obtain ⟨k, hk, hkt, _, _⟩ := cell_place s y x hss hi.1 hi.2
      unfold isWav at h
      rw [Bool.and_eq_true] at h
      have := okWavs_at _ D 64 k h.2 hk
      rw [Bool.and_eq_true] at this
      refine ⟨_, _, _, rfl, ?_, ?_⟩
      · rw [hkt]; exact this.1
      · rw [hkt]; exact this.2
end Go.Proofs.Ytjmfffgddmnkmaa
