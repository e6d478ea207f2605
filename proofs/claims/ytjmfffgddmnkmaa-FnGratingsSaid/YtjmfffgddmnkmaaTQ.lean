/- Quarter turns: program and model answer alike, and four of them make none. Condition: 64 complex numbers. -/
import Derived.Test.YtjmfffgddmnkmaaIQT
import Derived.Test.YtjmfffgddmnkmaaM35
namespace Go.Proofs.Ytjmfffgddmnkmaa
open Go Go.RowKit

theorem order_symm (a b : Ieee.Datum) (h : a.order b = some .eq) : b.order a = some .eq := by
  cases a with
  | nan s t => simp [Ieee.Datum.order] at h
  | infinity s =>
    cases b with
    | nan s t => simp [Ieee.Datum.order] at h
    | infinity t => cases s <;> cases t <;> simp [Ieee.Datum.order] at h ⊢
    | number t n j => cases s <;> simp [Ieee.Datum.order] at h
  | number s m i =>
    cases b with
    | nan s t => simp [Ieee.Datum.order] at h
    | infinity t => cases t <;> simp [Ieee.Datum.order] at h
    | number t n j =>
      simp only [Ieee.Datum.order, Option.some.injEq] at h ⊢
      rw [Std.LawfulEqCmp.compare_eq_iff_eq] at h ⊢
      rw [Int.min_comm j i]
      exact h.symm
theorem feq_symm (x y : Nat) (h : Op.floatEq .f32 x y = true) : Op.floatEq .f32 y x = true := by
  unfold Op.floatEq at *
  have h' : FloatKind.f32.format.order x y = some .eq := by simpa using h
  have : FloatKind.f32.format.order y x = some .eq := order_symm _ _ h'
  rw [this]; rfl

/-- the program's answer at a wave -/
def TurnsTo (D F : Array Value) (c : Int) : Prop := ∀ w, Calls Try.prog 61 #[.agg D] w fun e w' => e = .returned (.tuple #[.agg F, .int .i64 c]) ∧ Below w.heap.size w w'
/-- what follows where the first turn has no error -/
def TurnsOn (D F : Array Value) : Prop := ∃ (s : Int) (F2 F3 F4 : Array Value), FinW s F2 ∧ FinW s F3 ∧ FinW s F4 ∧ TurnsTo F F2 0 ∧ TurnsTo F2 F3 0 ∧ TurnsTo F3 F4 0 ∧ ∀ w, (binOp .eql 32 (.agg F4) (.agg D)).run Try.prog w = .ok (.bool true) w

theorem turn_far (s : Nat) (hs : side s = true) (D : Array Value) (k : Nat) (h : s * s ≤ k) : reAt (turn s D) k = 0 ∧ imAt (turn s D) k = 0 := by
  obtain ⟨g1, g2⟩ := gf_at s (cellQT s D) (s * s) k (sq_le s hs)
  unfold turn
  rw [g1, g2, if_neg (by omega), if_neg (by omega)]
  exact ⟨rfl, rfl⟩
theorem wav_at (s : Int) (D : Array Value) (hD : Wav s D) (k : Nat) (hk : k < 64) : D[1 + k]? = some (.complex .f32 (reAt D k) (imAt D k)) := by
  obtain ⟨x, y, h⟩ := hD.2.2 k hk
  obtain ⟨e1, e2⟩ := at_of D k x y h
  rw [e1, e2]; exact h
theorem place_of (s k : Nat) (hs : 0 < s) (hk : k < s * s) : ∃ y x, y < s ∧ x < s ∧ k = s * y + x :=
  ⟨k / s, k % s, Nat.div_lt_of_lt_mul hk, Nat.mod_lt _ hs, (Nat.div_add_mod k s).symm⟩

theorem turn4_eql (s : Nat) (hs : side s = true) (D : Array Value) (hD : Wav s D) (hw : isWav s D = true) (w : World) :
    (binOp .eql 32 (.agg (turn s (turn s (turn s (turn s D))))) (.agg D)).run Try.prog w = .ok (.bool true) w := by
  rw [run_eqlW s _ D (turn_wav s _) hD (fun _ => true) (fun k hk => by
    refine ⟨_, _, _, _, wav_at s _ (turn_wav s _) k hk, wav_at s D hD k hk, ?_⟩
    by_cases h : k < s * s
    · obtain ⟨y, x, hy, hx, rfl⟩ := place_of s k (by rcases side_yes s hs with e | e | e | e <;> omega) h
      obtain ⟨e1, e2⟩ := turn4_at s hs D y x hy hx
      have hf := isWav_fin s D hD hw (s * y + x)
      rw [Bool.and_eq_true] at hf
      rw [e1, e2, self32 _ hf.1, self32 _ hf.2]; rfl
    · obtain ⟨e1, e2⟩ := turn_far s hs (turn s (turn s (turn s D))) k (by omega)
      rw [e1, e2]
      unfold isWav at hw
      rw [Bool.and_eq_true] at hw
      have hn := okWavs_nul _ _ _ hw.2 k hk (by rw [← Int.natCast_mul]; show s * s ≤ k; omega)
      unfold nul at hn
      rw [Bool.and_eq_true] at hn
      rw [feq_symm _ _ hn.1, feq_symm _ _ hn.2]; rfl) w]
  simp

theorem bothQT (s : Int) (D : Array Value) (hD : Wav s D) : ∃ (t : Int) (F : Array Value) (c : Int), FinW t F ∧ TurnsTo D F c ∧
    (∀ w, Calls Try.prog 62 #[.agg D] w fun e w' => e = .returned (.tuple #[.agg F, .int .i64 c]) ∧ Below w.heap.size w w') ∧
    (c = 1 ∨ (c = 0 ∧ TurnsOn D F)) := by
  cases hw : isWav s D
  · exact ⟨0, _, 1, finW_of 0 zc (by rw [← fill_zero (fun _ => 0)]; exact fill_cells _ (fun _ => by omega) 0), implQT_no s D hD hw, specQT_no s D hD hw, .inl rfl⟩
  · have hs : side s = true := by unfold isWav at hw; rw [Bool.and_eq_true] at hw; exact hw.1
    obtain ⟨n, rfl⟩ : ∃ n : Nat, s = n := ⟨s.toNat, by rcases side_yes s hs with e | e | e | e <;> omega⟩
    have w1 := turn_wav n D
    have i1 := turn_isWav n hs D hD hw
    have w2 := turn_wav n (turn n D)
    have i2 := turn_isWav n hs _ w1 i1
    have w3 := turn_wav n (turn n (turn n D))
    have i3 := turn_isWav n hs _ w2 i2
    refine ⟨n, turn n D, 0, gf_fin n _ (cellQT_fin n D hD hw) (n * n), implQT_yes n hs D hD hw, specQT_yes n D hD hw hs, .inr ⟨rfl, n, _, _, _, gf_fin n _ (cellQT_fin n _ w1 i1) (n * n), gf_fin n _ (cellQT_fin n _ w2 i2) (n * n), gf_fin n _ (cellQT_fin n _ w3 i3) (n * n), implQT_yes n hs _ w1 i1, implQT_yes n hs _ w2 i2, implQT_yes n hs _ w3 i3, turn4_eql n hs D hD hw⟩⟩
end Go.Proofs.Ytjmfffgddmnkmaa
