/- The program's cell of a wave is the model's. Condition: 64 complex numbers. The program turns a wave by a quarter as the model does; four times make none. Condition: 64 complex numbers. -/
import Derived.Test.YtjmfffgddmnkmabM17
import Derived.Deep.QuietTactic
import Derived.BigQuiet
import Derived.Test.YtjmfffgddmnkmabM15
namespace Go.Proofs.Ytjmfffgddmnkmab
open Go Go.RowKit

set_option maxRecDepth 100000 in
set_option maxHeartbeats 400000 in
theorem at_any (b : Nat) (s : Int) (D : Array Value) (y x : Int) (k m n : Nat) (hk : k < 64) (hwm : IntKind.i64.wrap (s * y) = s * y) (hwa : IntKind.i64.wrap (s * y + x) = (k : Int)) (hz : D[1 + k]? = some (.complex .f32 m n)) (h0 : D[0]? = some (.int .i64 s))
    (w : World) (hb : w.heap[b]? = some (.cells D 30 (0, 0))) :
    Calls Try.prog 87 #[.pointer (some ⟨b, 0, none⟩), .int .i64 y, .int .i64 x] w fun e w' => e = .returned (.complex .f32 m n) ∧ ∃ q, w' = w.drewN q := by
  have c0 : w.cell? ⟨b, 0, none⟩ = some (.int .i64 s) := by rw [cell_of_row _ _ _ _ _ _ hb]; exact h0
  have c1 : w.cell? ⟨b, 1 + k, none⟩ = some (.complex .f32 m n) := by rw [cell_of_row _ _ _ _ _ _ hb]; exact hz
  have hk' : (k : Int) < 64 := by omega
  clear hb hz h0
  go_enter Try.func87, Try.ntmps87
  go_wp2_with fail
  go_quiet (fail)
  go_wp2
  go_ret
  exact ⟨rfl, _, rfl⟩

end Go.Proofs.Ytjmfffgddmnkmab

namespace Go.Proofs.Ytjmfffgddmnkmab
open Go Go.RowKit

theorem okWavs_fin (n : Nat) (D : Array Value) (m : Nat) (h : okWavs n D m = true) : ∀ k, k < m → (fin (reAt D k) && fin (imAt D k)) = true := by
  induction m with
  | zero => intro k hk; omega
  | succ m ih =>
    intro k hk
    rw [okWavs, Bool.and_eq_true] at h
    by_cases e : k = m
    · subst e
      have h2 := h.2
      unfold okWav at h2
      rw [Bool.and_eq_true] at h2
      exact h2.1
    · exact ih h.1 k (by omega)
theorem okWavs_nul (n : Nat) (D : Array Value) (m : Nat) (h : okWavs n D m = true) : ∀ k, k < m → n ≤ k → nul (reAt D k) (imAt D k) = true := by
  induction m with
  | zero => intro k hk; omega
  | succ m ih =>
    intro k hk hn
    rw [okWavs, Bool.and_eq_true] at h
    by_cases e : k = m
    · subst e
      have h2 := h.2
      unfold okWav at h2
      rw [Bool.and_eq_true, show decide (k < n) = false by simp; omega, Bool.false_or] at h2
      exact h2.2
    · exact ih h.1 k (by omega) hn
theorem okWavs_of (n : Nat) (D : Array Value) (m : Nat) (h : ∀ k, k < m → okWav n k (reAt D k) (imAt D k) = true) : okWavs n D m = true := by
  induction m with
  | zero => rfl
  | succ m ih => rw [okWavs, ih (fun k hk => h k (by omega)), h m (by omega)]; rfl
theorem at_far (s : Int) (D : Array Value) (hD : Wav s D) (k : Nat) (hk : 64 ≤ k) : reAt D k = 0 ∧ imAt D k = 0 := by
  have h : D.getD (1 + k) undef = undef := by
    rw [Array.getD_eq_getD_getElem?, Array.getElem?_eq_none (by rw [hD.1]; omega)]
    rfl
  unfold reAt imAt
  rw [h]
  exact ⟨rfl, rfl⟩
theorem isWav_fin (s : Int) (D : Array Value) (hD : Wav s D) (h : isWav s D = true) (k : Nat) : (fin (reAt D k) && fin (imAt D k)) = true := by
  unfold isWav at h
  rw [Bool.and_eq_true] at h
  by_cases hk : k < 64
  · exact okWavs_fin _ _ _ h.2 k hk
  · obtain ⟨e1, e2⟩ := at_far s D hD k (by omega)
    rw [e1, e2]
    decide
theorem cellQT_fin (s : Nat) (D : Array Value) (hD : Wav s D) (h : isWav s D = true) (i : Nat) : (fin (cellQT s D i).1 && fin (cellQT s D i).2) = true :=
  isWav_fin s D hD h _
theorem gf_wav (s : Int) (F : Nat → Nat × Nat) (k : Nat) : Wav s (pic s (gf F k)) := by
  refine ⟨pic_size _ _ (gf_size _ _), pic_zero _ _, fun i hi => ?_⟩
  rw [Nat.add_comm, pic_succ, gf_get, if_pos hi]
  by_cases h : i < k
  · exact ⟨_, _, by rw [if_pos h]⟩
  · exact ⟨0, 0, by rw [if_neg h]⟩
theorem gf_at (s : Int) (F : Nat → Nat × Nat) (k i : Nat) (hk : k ≤ 64) : reAt (pic s (gf F k)) i = (if i < k then (F i).1 else 0) ∧ imAt (pic s (gf F k)) i = (if i < k then (F i).2 else 0) := by
  by_cases hi : i < 64
  · by_cases h : i < k
    · have := at_of (pic s (gf F k)) i (F i).1 (F i).2 (by rw [Nat.add_comm, pic_succ, gf_get, if_pos hi, if_pos h])
      rw [if_pos h, if_pos h]
      exact this
    · have := at_of (pic s (gf F k)) i 0 0 (by rw [Nat.add_comm, pic_succ, gf_get, if_pos hi, if_neg h])
      rw [if_neg h, if_neg h]
      exact this
  · rw [if_neg (by omega), if_neg (by omega)]
    exact at_far s _ (gf_wav s F k) i (by omega)
theorem gf_isWav (s : Nat) (hs : side s = true) (F : Nat → Nat × Nat) (hF : ∀ i, (fin (F i).1 && fin (F i).2) = true) : isWav s (pic s (gf F (s * s))) = true := by
  unfold isWav
  rw [hs, Bool.true_and, show (((s : Int) * (s : Int)).toNat) = s * s by rw [← Int.natCast_mul]; rfl]
  refine okWavs_of _ _ _ fun k _ => ?_
  obtain ⟨e1, e2⟩ := gf_at s F (s * s) k (sq_le s hs)
  rw [e1, e2]
  unfold okWav
  by_cases h : k < s * s
  · rw [if_pos h, if_pos h, hF k, show decide (k < s * s) = true by simp; omega]; rfl
  · rw [if_neg h, if_neg h, show nul 0 0 = true by decide, Bool.or_true]; decide

/-- the quarter turn of a wave -/
def turn (s : Nat) (D : Array Value) : Array Value := pic s (gf (cellQT s D) (s * s))
theorem turn_wav (s : Nat) (D : Array Value) : Wav s (turn s D) := gf_wav _ _ _
theorem turn_isWav (s : Nat) (hs : side s = true) (D : Array Value) (hD : Wav s D) (h : isWav s D = true) : isWav s (turn s D) = true := gf_isWav s hs _ (cellQT_fin s D hD h)
theorem turn_at (s : Nat) (hs : side s = true) (D : Array Value) (y x : Nat) (hy : y < s) (hx : x < s) : reAt (turn s D) (s * y + x) = reAt D (s * (s - 1 - x) + y) ∧ imAt (turn s D) (s * y + x) = imAt D (s * (s - 1 - x) + y) := by
  obtain ⟨e1, e2⟩ := place_at s y x hx
  obtain ⟨g1, g2⟩ := gf_at s (cellQT s D) (s * s) (s * y + x) (sq_le s hs)
  have hlt : s * y + x < s * s := by
    have : s * y + s ≤ s * s := by rw [← Nat.mul_succ]; exact Nat.mul_le_mul_left _ (by omega)
    omega
  unfold turn
  rw [g1, g2, if_pos hlt, if_pos hlt]
  unfold cellQT
  rw [e1, e2]
  exact ⟨rfl, rfl⟩
theorem turn4_at (s : Nat) (hs : side s = true) (D : Array Value) (y x : Nat) (hy : y < s) (hx : x < s) : reAt (turn s (turn s (turn s (turn s D)))) (s * y + x) = reAt D (s * y + x) ∧ imAt (turn s (turn s (turn s (turn s D)))) (s * y + x) = imAt D (s * y + x) := by
  have a1 := turn_at s hs (turn s (turn s (turn s D))) y x hy hx
  have a2 := turn_at s hs (turn s (turn s D)) (s - 1 - x) y (by omega) hy
  have a3 := turn_at s hs (turn s D) (s - 1 - y) (s - 1 - x) (by omega) (by omega)
  have a4 := turn_at s hs D (s - 1 - (s - 1 - x)) (s - 1 - y) (by omega) (by omega)
  rw [show s - 1 - (s - 1 - x) = x by omega] at a3 a4
  rw [show s - 1 - (s - 1 - y) = y by omega] at a4
  exact ⟨by rw [a1.1, a2.1, a3.1, a4.1], by rw [a1.2, a2.2, a3.2, a4.2]⟩

end Go.Proofs.Ytjmfffgddmnkmab
