/- The program's cell of a wave in a row and a column. Condition: 64 complex numbers. Plain facts on waves by a rule: they are waves; what their cells are. Condition: none. -/
import Derived.Test.YtdmeinaonliphabM21
import Derived.Deep.QuietTactic
import Derived.BigQuiet
import Derived.Test.YtdmeinaonliphabM19
namespace Go.Proofs.Ytdmeinaonliphab
open Go Go.RowKit

set_option maxRecDepth 100000 in
set_option maxHeartbeats 400000 in
theorem at_any (b : Nat) (s : Int) (D : Array Value) (y x : Int) (k m n : Nat) (hk : k < 64) (hwm : IntKind.i64.wrap (s * y) = s * y) (hwa : IntKind.i64.wrap (s * y + x) = (k : Int)) (hz : D[1 + k]? = some (.complex .f32 m n)) (h0 : D[0]? = some (.int .i64 s))
    (w : World) (hb : w.heap[b]? = some (.cells D 27 (0, 0))) :
    Calls Try.prog 48 #[.pointer (some ⟨b, 0, none⟩), .int .i64 y, .int .i64 x] w fun e w' => e = .returned (.complex .f32 m n) ∧ ∃ q, w' = w.drewN q := by
  have c0 : w.cell? ⟨b, 0, none⟩ = some (.int .i64 s) := by rw [cell_of_row _ _ _ _ _ _ hb]; exact h0
  have c1 : w.cell? ⟨b, 1 + k, none⟩ = some (.complex .f32 m n) := by rw [cell_of_row _ _ _ _ _ _ hb]; exact hz
  have hk' : (k : Int) < 64 := by omega
  clear hb hz h0
  go_enter Try.func48, Try.ntmps48
  go_wp2_with fail
  go_quiet (fail)
  go_wp2
  go_ret
  exact ⟨rfl, _, rfl⟩

end Go.Proofs.Ytdmeinaonliphab

namespace Go.Proofs.Ytdmeinaonliphab
open Go Go.RowKit

theorem okWavs_fin (n : Nat) (D : Array Value) (m : Nat) (h : okWavs n D m = true) : ∀ k, k < m → (fin (reAt D k) && fin (imAt D k)) = true := by
  induction m with
  | zero => intro k hk; omega
  | succ m ih =>
    intro k hk
    rw [okWavs, Bool.and_eq_true] at h
    by_cases e : k = m
    · subst e
      have h2 := h.2
      unfold okWav at h2
      rw [Bool.and_eq_true] at h2
      exact h2.1
    · exact ih h.1 k (by omega)
theorem okWavs_nul (n : Nat) (D : Array Value) (m : Nat) (h : okWavs n D m = true) : ∀ k, k < m → n ≤ k → nul (reAt D k) (imAt D k) = true := by
  induction m with
  | zero => intro k hk; omega
  | succ m ih =>
    intro k hk hn
    rw [okWavs, Bool.and_eq_true] at h
    by_cases e : k = m
    · subst e
      have h2 := h.2
      unfold okWav at h2
      rw [Bool.and_eq_true, show decide (k < n) = false by simp; omega, Bool.false_or] at h2
      exact h2.2
    · exact ih h.1 k (by omega) hn
theorem okWavs_of (n : Nat) (D : Array Value) (m : Nat) (h : ∀ k, k < m → okWav n k (reAt D k) (imAt D k) = true) : okWavs n D m = true := by
  induction m with
  | zero => rfl
  | succ m ih => rw [okWavs, ih (fun k hk => h k (by omega)), h m (by omega)]; rfl
theorem at_far (s : Int) (D : Array Value) (hD : Wav s D) (k : Nat) (hk : 64 ≤ k) : reAt D k = 0 ∧ imAt D k = 0 := by
  have h : D.getD (1 + k) undef = undef := by
    rw [Array.getD_eq_getD_getElem?, Array.getElem?_eq_none (by rw [hD.1]; omega)]
    rfl
  unfold reAt imAt
  rw [h]
  exact ⟨rfl, rfl⟩
theorem isWav_fin (s : Int) (D : Array Value) (hD : Wav s D) (h : isWav s D = true) (k : Nat) : (fin (reAt D k) && fin (imAt D k)) = true := by
  unfold isWav at h
  rw [Bool.and_eq_true] at h
  by_cases hk : k < 64
  · exact okWavs_fin _ _ _ h.2 k hk
  · obtain ⟨e1, e2⟩ := at_far s D hD k (by omega)
    rw [e1, e2]
    decide
theorem gf_wav (s : Int) (F : Nat → Nat × Nat) (k : Nat) : Wav s (pic s (gf F k)) := by
  refine ⟨pic_size _ _ (gf_size _ _), pic_zero _ _, fun i hi => ?_⟩
  rw [Nat.add_comm, pic_succ, gf_get, if_pos hi]
  by_cases h : i < k
  · exact ⟨_, _, by rw [if_pos h]⟩
  · exact ⟨0, 0, by rw [if_neg h]⟩
theorem gf_at (s : Int) (F : Nat → Nat × Nat) (k i : Nat) (hk : k ≤ 64) : reAt (pic s (gf F k)) i = (if i < k then (F i).1 else 0) ∧ imAt (pic s (gf F k)) i = (if i < k then (F i).2 else 0) := by
  by_cases hi : i < 64
  · by_cases h : i < k
    · have := at_of (pic s (gf F k)) i (F i).1 (F i).2 (by rw [Nat.add_comm, pic_succ, gf_get, if_pos hi, if_pos h])
      rw [if_pos h, if_pos h]
      exact this
    · have := at_of (pic s (gf F k)) i 0 0 (by rw [Nat.add_comm, pic_succ, gf_get, if_pos hi, if_neg h])
      rw [if_neg h, if_neg h]
      exact this
  · rw [if_neg (by omega), if_neg (by omega)]
    exact at_far s _ (gf_wav s F k) i (by omega)
theorem gf_isWav (s : Nat) (hs : side s = true) (F : Nat → Nat × Nat) (hF : ∀ i, (fin (F i).1 && fin (F i).2) = true) : isWav s (pic s (gf F (s * s))) = true := by
  unfold isWav
  rw [hs, Bool.true_and, show (((s : Int) * (s : Int)).toNat) = s * s by rw [← Int.natCast_mul]; rfl]
  refine okWavs_of _ _ _ fun k _ => ?_
  obtain ⟨e1, e2⟩ := gf_at s F (s * s) k (sq_le s hs)
  rw [e1, e2]
  unfold okWav
  by_cases h : k < s * s
  · rw [if_pos h, if_pos h, hF k, show decide (k < s * s) = true by simp; omega]; rfl
  · rw [if_neg h, if_neg h, show nul 0 0 = true by decide, Bool.or_true]; decide

end Go.Proofs.Ytdmeinaonliphab
