/- Masks by a rule: they are masks, their open cells are the rule's; slits have the same count of open cells in each row; a disc and the next one meet in the disc. Condition: numbers in range. -/
import Derived.Test.YtjmfffgddmnkmaaIAnd
import Derived.Test.YtjmfffgddmnkmaaIOp
import Derived.Test.YtjmfffgddmnkmaaSSlitMask
import Derived.Test.YtjmfffgddmnkmaaSDiscMask
namespace Go.Proofs.Ytjmfffgddmnkmaa
open Go Go.RowKit

theorem gf_congr (F G : Nat → Nat × Nat) (k : Nat) (h : ∀ i, i < k → F i = G i) : gf F k = gf G k := by
  apply Array.ext_getElem?
  intro i
  rw [gf_get, gf_get]
  by_cases h1 : i < 64
  · rw [if_pos h1, if_pos h1]
    by_cases h2 : i < k
    · rw [if_pos h2, if_pos h2, h i h2]
    · rw [if_neg h2, if_neg h2]
  · rw [if_neg h1, if_neg h1]
theorem rule_isMsk (s : Nat) (hs : side s = true) (G : Nat → Bool) : isMsk s (pic s (gf (fun i => mark (G i)) (s * s))) = true := by
  unfold isMsk
  rw [gf_isWav s hs (fun i => mark (G i)) (fun i => mark_fin _), Bool.and_true]
  refine mks_of _ _ fun k _ => ?_
  obtain ⟨g1, g2⟩ := gf_at s (fun i => mark (G i)) (s * s) k (sq_le s hs)
  rw [g1, g2]
  by_cases h : k < s * s
  · rw [if_pos h, if_pos h]
    cases G k <;> decide
  · rw [if_neg h, if_neg h]
    decide
theorem rule_open (s : Nat) (hs : side s = true) (G : Nat → Bool) (i : Nat) (hi : i < s * s) : open_ (pic s (gf (fun i => mark (G i)) (s * s))) i = G i := by
  unfold open_
  obtain ⟨g1, g2⟩ := gf_at s (fun i => mark (G i)) (s * s) i (sq_le s hs)
  rw [g1, g2, if_pos hi, if_pos hi]
  cases G i <;> decide
theorem slit_cnt (s : Nat) (hs : side s = true) (x d : Nat) (y : Nat) (hy : y < s) : ∀ k, k ≤ s → cnt (pic s (gf (cellSlitMask s x d) (s * s))) (s * y) k = min k (x + d) - min k x := by
  intro k
  induction k with
  | zero => intro _; simp [cnt]
  | succ k ih =>
    intro hk
    have e : open_ (pic s (gf (cellSlitMask s x d) (s * s))) (s * y + k) = (decide ((x : Int) ≤ (k : Int)) && decide ((k : Int) < (x : Int) + (d : Int))) := by
      have hlt : s * y + k < s * s := by
        have : s * y + s ≤ s * s := by rw [← Nat.mul_succ]; exact Nat.mul_le_mul_left _ (by omega)
        omega
      refine (rule_open s hs (fun i => decide ((x : Int) ≤ ((i % s : Nat) : Int)) && decide (((i % s : Nat) : Int) < (x : Int) + (d : Int))) (s * y + k) hlt).trans ?_
      rw [(place_at s y k (by omega)).2]
    rw [cnt, ih (by omega), e]
    by_cases h1 : x ≤ k
    · by_cases h2 : k < x + d
      · rw [if_pos (by simp; omega)]; omega
      · rw [if_neg (by simp; omega)]; omega
    · rw [if_neg (by simp; omega)]; omega

theorem implOpenSlit (n x d : Int) (hok : okSlitMask n x d = true) (w : World) : Calls Try.prog 39 #[.agg (pic n (gf (cellSlitMask n.toNat x d) (n.toNat * n.toNat)))] w fun e w' => ∃ b cap, e = .returned (.tuple #[.slice (some ⟨b, 0, none⟩) n.toNat cap, .int .i64 0]) ∧ Below w.heap.size w w' ∧ ∀ i, i < n.toNat → w'.cell? ⟨b, 0 + i, none⟩ = some (.int .i64 d) := by
  unfold okSlitMask at hok
  rw [Bool.and_eq_true, Bool.and_eq_true] at hok
  obtain ⟨⟨hs, h2⟩, h3⟩ := hok
  simp [inside] at h2 h3
  obtain ⟨s, rfl⟩ : ∃ s : Nat, n = s := ⟨n.toNat, by rcases side_yes n hs with e | e | e | e <;> omega⟩
  obtain ⟨x, rfl⟩ : ∃ y : Nat, x = y := ⟨x.toNat, by omega⟩
  obtain ⟨d, rfl⟩ : ∃ y : Nat, d = y := ⟨d.toNat, by omega⟩
  refine (implOpen_yes s hs _ (gf_wav s _ _) (rule_isMsk s hs _) w).mono ?_
  rintro e w' ⟨b, rfl, hb, hc⟩
  refine ⟨b, s, rfl, hb, fun i hi => ?_⟩
  have e : cnt (pic s (gf (cellSlitMask s x d) (s * s))) (s * i) s = d := by
    rw [slit_cnt s hs x d i hi s (Nat.le_refl _)]; omega
  exact (hc i hi).trans (congrArg (fun n : Nat => some (Value.int .i64 (n : Int))) e)

theorem inter_rules (s : Nat) (hs : side s = true) (G H : Nat → Bool) (hGH : ∀ i, G i = true → H i = true) (w : World) : Calls Try.prog 44 #[.agg (pic s (gf (fun i => mark (G i)) (s * s))), .agg (pic s (gf (fun i => mark (H i)) (s * s)))] w fun e w' => e = .returned (.tuple #[.agg (pic s (gf (fun i => mark (G i)) (s * s))), .int .i64 0]) ∧ Below w.heap.size w w' := by
  have m1 := rule_isMsk s hs G
  have m2 := rule_isMsk s hs H
  have o1 := rule_open s hs G
  have o2 := rule_open s hs H
  have f1 := gf_wav s (fun i => mark (G i)) (s * s)
  have f2 := gf_wav s (fun i => mark (H i)) (s * s)
  generalize hP : pic s (gf (fun i => mark (G i)) (s * s)) = P at *
  generalize pic s (gf (fun i => mark (H i)) (s * s)) = Q at *
  have h := implIntersectionOf_any s s P Q f1 f2 w
  have hj : gf (joinIntersectionOf P Q) (s * s) = gf (fun i => mark (G i)) (s * s) := gf_congr _ _ _ fun i hi => by
    unfold joinIntersectionOf
    rw [o1 i hi, o2 i hi]
    cases hg : G i
    · rfl
    · rw [hGH i hg]; rfl
  have ha : ansIntersectionOf s s P Q = ((s : Int), gf (fun i => mark (G i)) (s * s), (0 : Int)) := by
    unfold ansIntersectionOf
    rw [if_neg (by rw [m1, m2]; simp), if_neg (by simp), Int.toNat_natCast, hj]
  rw [ha] at h
  dsimp only at h
  rw [hP] at h
  exact h

theorem implInterDisc (n v u r : Int) (h1 : okDiscMask n v u r = true) (w : World) : Calls Try.prog 44 #[.agg (pic n (gf (cellDiscMask n.toNat v u r) (n.toNat * n.toNat))), .agg (pic n (gf (cellDiscMask n.toNat v u (r + 1)) (n.toNat * n.toNat)))] w fun e w' => e = .returned (.tuple #[.agg (pic n (gf (cellDiscMask n.toNat v u r) (n.toNat * n.toNat))), .int .i64 0]) ∧ Below w.heap.size w w' := by
  have hs : side n = true := by
    unfold okDiscMask at h1
    rw [Bool.and_eq_true] at h1
    have h := h1.1
    unfold centre at h
    rw [Bool.and_eq_true, Bool.and_eq_true] at h
    exact h.1.1
  obtain ⟨s, rfl⟩ : ∃ s : Nat, n = s := ⟨n.toNat, by rcases side_yes n hs with e | e | e | e <;> omega⟩
  rw [Int.toNat_natCast]
  exact inter_rules s hs (fun i => decide (dist (i / s) (i % s) v u ≤ r)) (fun i => decide (dist (i / s) (i % s) v u ≤ r + 1)) (fun i h => by simp at h ⊢; omega) w
end Go.Proofs.Ytjmfffgddmnkmaa
