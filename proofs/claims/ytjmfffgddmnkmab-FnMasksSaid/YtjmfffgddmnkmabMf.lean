/- Counts of joined masks, the sum of what is behind a mask and behind its complement. Condition: masks of one side. -/
import Derived.Test.YtjmfffgddmnkmabBm
import Derived.Test.YtjmfffgddmnkmabM35
import Derived.Test.YtjmfffgddmnkmabFm
namespace Go.Proofs.Ytjmfffgddmnkmab
open Go Go.RowKit

theorem rule_isMsk (s : Nat) (hs : side s = true) (G : Nat → Bool) : isMsk s (pic s (gf (fun i => mark (G i)) (s * s))) = true := by
  unfold isMsk
  rw [gf_isWav s hs (fun i => mark (G i)) (fun i => mark_fin _), Bool.and_true]
  refine mks_of _ _ fun k _ => ?_
  obtain ⟨g1, g2⟩ := gf_at s (fun i => mark (G i)) (s * s) k (sq_le s hs)
  rw [g1, g2]
  by_cases h : k < s * s
  · rw [if_pos h, if_pos h]
    cases G k <;> decide
  · rw [if_neg h, if_neg h]
    decide
theorem rule_open (s : Nat) (hs : side s = true) (G : Nat → Bool) (i : Nat) (hi : i < s * s) : open_ (pic s (gf (fun i => mark (G i)) (s * s))) i = G i := by
  unfold open_
  obtain ⟨g1, g2⟩ := gf_at s (fun i => mark (G i)) (s * s) i (sq_le s hs)
  rw [g1, g2, if_pos hi, if_pos hi]
  cases G i <;> decide

theorem cnt_join (D E U I : Array Value) (p : Nat) : ∀ x, (∀ k, p ≤ k → k < p + x → open_ U k = (open_ D k || open_ E k) ∧ open_ I k = (open_ D k && open_ E k)) → cnt D p x + cnt E p x = cnt U p x + cnt I p x := by
  intro x
  induction x with
  | zero => intro _; simp [cnt]
  | succ x ih =>
    intro h
    have h1 := ih (fun k a b => h k a (by omega))
    obtain ⟨h2, h3⟩ := h (p + x) (by omega) (by omega)
    simp only [cnt]
    rw [h2, h3]
    cases open_ D (p + x) <;> cases open_ E (p + x) <;> simp <;> omega
theorem cnt_comp (D C : Array Value) (p : Nat) : ∀ x, (∀ k, p ≤ k → k < p + x → open_ C k = !open_ D k) → cnt D p x + cnt C p x = x := by
  intro x
  induction x with
  | zero => intro _; simp [cnt]
  | succ x ih =>
    intro h
    have h1 := ih (fun k a b => h k a (by omega))
    have h2 := h (p + x) (by omega) (by omega)
    simp only [cnt]
    rw [h2]
    cases open_ D (p + x) <;> simp <;> omega
theorem tot_add (f g h k : Nat → Int) : ∀ n, (∀ i, i < n → f i + g i = h i + k i) → tot f n + tot g n = tot h n + tot k n := by
  intro n
  induction n with
  | zero => intro _; simp [tot]
  | succ n ih =>
    intro hh
    have h1 := ih (fun i hi => hh i (by omega))
    have h2 := hh n (by omega)
    simp only [tot]
    omega
theorem tot_comp (f g : Nat → Int) (d : Int) : ∀ n, (∀ i, i < n → f i + g i = d) → tot f n + tot g n = n * d := by
  intro n
  induction n with
  | zero => intro _; simp [tot]
  | succ n ih =>
    intro hh
    have h1 := ih (fun i hi => hh i (by omega))
    have h2 := hh n (by omega)
    simp only [tot]
    rw [Int.natCast_add, Int.add_mul]
    omega

/-- the open cells of the i-th row -/
def cnts (s : Nat) (D : Array Value) (i : Nat) : Int := (cnt D (s * i) s : Nat)
theorem cnts_small (s : Nat) (hs : side s = true) (D : Array Value) (i : Nat) : 0 ≤ cnts s D i ∧ cnts s D i ≤ 64 := by
  have h := cnt_le D (s * i) s
  have : s ≤ 8 := by rcases side_nat s hs with rfl | rfl | rfl | rfl <;> omega
  unfold cnts
  omega
theorem row_in (s i k : Nat) (hi : i < s) (h : k < s * i + s) : k < s * s := by
  have : s * i + s ≤ s * s := by rw [← Nat.mul_succ]; exact Nat.mul_le_mul_left _ (by omega)
  omega
theorem join_tot (s : Nat) (hs : side s = true) (D E : Array Value) : tot (cnts s D) s + tot (cnts s E) s = tot (cnts s (pic s (gf (joinUnionOf D E) (s * s)))) s + tot (cnts s (pic s (gf (joinIntersectionOf D E) (s * s)))) s := by
  refine tot_add _ _ _ _ s fun i hi => ?_
  have := cnt_join D E (pic s (gf (joinUnionOf D E) (s * s))) (pic s (gf (joinIntersectionOf D E) (s * s))) (s * i) s (fun k _ hk =>
    ⟨rule_open s hs (fun i => open_ D i || open_ E i) k (row_in s i k hi hk), rule_open s hs (fun i => open_ D i && open_ E i) k (row_in s i k hi hk)⟩)
  unfold cnts
  omega
theorem comp_tot (s : Nat) (hs : side s = true) (D : Array Value) : tot (cnts s D) s + tot (cnts s (pic s (gf (fun i => mark (!open_ D i)) (s * s)))) s = (s : Int) * s := by
  refine tot_comp _ _ _ s fun i hi => ?_
  have := cnt_comp D (pic s (gf (fun i => mark (!open_ D i)) (s * s))) (s * i) s (fun k _ hk => rule_open s hs (fun i => !open_ D i) k (row_in s i k hi hk))
  unfold cnts
  omega

/-- a number and 0 -/
def bk (x : Nat) : Nat := (Ieee.single.add x 0).getD 0
theorem bk_of (x : Nat) (h : fin x = true) : Ieee.single.add x 0 = some (bk x) ∧ Ieee.single.add 0 x = some (bk x) ∧ Op.floatEq .f32 (bk x) x = true ∧ fin (bk x) = true := by
  obtain ⟨y, h1, h2, h3, h4⟩ := add_zero32 x h
  have e : bk x = y := by unfold bk; rw [h1]; rfl
  rw [e]
  exact ⟨h1, h2, h3, h4⟩
theorem add_pair (a b c d p q : Nat) (h1 : Ieee.single.add a c = some p) (h2 : Ieee.single.add b d = some q) (w : World) : (binOp .add 27 (.complex .f32 a b) (.complex .f32 c d)).run Try.prog w = .ok (.complex .f32 p q) w := by
  refine run_complex_sum w .add (.inl rfl) _ .f32 _ _ _ _ _ _ ?_
  unfold cSumBits
  have e1 : floatBits .add .f32 a c = some p := h1
  have e2 : floatBits .add .f32 b d = some q := h2
  rw [e1, e2]; rfl
def sumF (D : Array Value) (i : Nat) : Nat × Nat := if fin (reAt D i) && fin (imAt D i) then (bk (reAt D i), bk (imAt D i)) else (0, 0)
theorem sumF_fin (D : Array Value) (i : Nat) : (fin (sumF D i).1 && fin (sumF D i).2) = true := by
  unfold sumF
  by_cases h : (fin (reAt D i) && fin (imAt D i)) = true
  · rw [if_pos h]
    rw [Bool.and_eq_true] at h
    show (fin (bk (reAt D i)) && fin (bk (imAt D i))) = true
    rw [(bk_of _ h.1).2.2.2, (bk_of _ h.2).2.2.2]; rfl
  · rw [if_neg h]; decide

/-- what is behind a mask and behind its complement adds up to the wave -/
theorem addUp (s : Nat) (hs : side s = true) (D E C : Array Value) (hD : Wav s D) (h1 : isWav s D = true) (hC : ∀ k, k < s * s → open_ C k = !open_ E k) : ∃ G : Array Value, FinW s G ∧
    (∀ w, Calls Try.prog 27 #[.agg (pic s (gf (behF D E) (s * s))), .agg (pic s (gf (behF D C) (s * s)))] w fun e w' => e = .returned (.tuple #[.agg G, .int .i64 0]) ∧ Below w.heap.size w w') ∧
    ∀ w, (binOp .neq 30 (.agg G) (.agg D)).run Try.prog w = .ok (.bool false) w := by
  have f1 := behF_fin s D E hD h1
  have f2 := behF_fin s D C hD h1
  have hf := gf_fin s (sumF D) (sumF_fin D) (s * s)
  have hF : ∀ i, sumF D i = (bk (reAt D i), bk (imAt D i)) := fun i => by unfold sumF; rw [if_pos (isWav_fin s D hD h1 i)]
  refine ⟨pic s (gf (sumF D) (s * s)), hf, implAdd_yes s hs _ _ (gf_wav s _ _) (gf_wav s _ _) (gf_isWav s hs _ f1) (gf_isWav s hs _ f2) (sumF D) (sumF_fin D) (fun i hi w => ?_), fun w => ?_⟩
  · obtain ⟨a1, a2⟩ := gf_at s (behF D E) (s * s) i (sq_le s hs)
    obtain ⟨b1, b2⟩ := gf_at s (behF D C) (s * s) i (sq_le s hs)
    rw [a1, a2, b1, b2, if_pos hi, if_pos hi, if_pos hi, if_pos hi, hF i]
    have hfin := isWav_fin s D hD h1 i
    rw [Bool.and_eq_true] at hfin
    obtain ⟨r1, r2, _⟩ := bk_of _ hfin.1
    obtain ⟨m1, m2, _⟩ := bk_of _ hfin.2
    unfold behF
    rw [hC i hi]
    cases open_ E i
    · exact add_pair _ _ _ _ _ _ r2 m2 w
    · exact add_pair _ _ _ _ _ _ r1 m1 w
  · rw [run_neqW s _ _ (finW_wav hf) hD (fun _ => true) (fun k hk => by
      obtain ⟨x, y, hx⟩ := hD.2.2 k hk
      obtain ⟨e1, e2⟩ := at_of D k x y hx
      rw [gf_cell s _ _ k hk, hx]
      by_cases h : k < s * s
      · rw [if_pos h, hF k, e1, e2]
        have hfin := isWav_fin s D hD h1 k
        rw [e1, e2, Bool.and_eq_true] at hfin
        refine ⟨_, _, _, _, rfl, rfl, ?_⟩
        show (Op.floatEq .f32 (bk x) x && Op.floatEq .f32 (bk y) y) = true
        rw [(bk_of _ hfin.1).2.2.1, (bk_of _ hfin.2).2.2.1]; rfl
      · rw [if_neg h]
        refine ⟨_, _, _, _, rfl, rfl, ?_⟩
        have hn := far_nul s D h1 k hk (by omega)
        rw [e1, e2] at hn
        unfold nul at hn
        rw [Bool.and_eq_true] at hn
        rw [feq_symm _ _ hn.1, feq_symm _ _ hn.2]; rfl) w]
    simp
end Go.Proofs.Ytjmfffgddmnkmab
