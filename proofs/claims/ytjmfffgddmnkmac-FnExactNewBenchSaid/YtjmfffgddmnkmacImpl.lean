/- The program's way to ask whether something is a picture answers as the model's. Condition: 64 floats. -/
import Derived.Test.YtjmfffgddmnkmacEq
import Derived.Test.YtjmfffgddmnkmacShown
namespace Go.Proofs.Ytjmfffgddmnkmac
open Go Go.RowKit

/-- the first k cells made zeros -/
def zto (zs : Array Value) (k : Nat) : Array Value := Array.ofFn (n := 64) fun i => if i.val < k then .float .f32 0 else zs.getD i.val undef
theorem zto_get (zs : Array Value) (k i : Nat) : (zto zs k)[i]? = if i < 64 then some (if i < k then .float .f32 0 else zs.getD i undef) else none := by
  simp only [zto, Array.getElem?_ofFn]
  by_cases h : i < 64 <;> simp [h]
theorem zto_size (zs : Array Value) (k : Nat) : (zto zs k).size = 64 := by simp [zto]
theorem zto_zero (zs : Array Value) (hz : Floats zs) : zto zs 0 = zs := by
  apply Array.ext_getElem?
  intro i
  rw [zto_get]
  by_cases h : i < 64
  · obtain ⟨x, _, hx⟩ := hz.2 i h
    simp [h, hx]
  · rw [if_neg h, Array.getElem?_eq_none (by have := hz.1; omega)]
theorem pic_zto (s : Int) (zs : Array Value) (k : Nat) (hk : k < 64) : (pic s (zto zs k)).setIfInBounds (1 + k) (.float .f32 0) = pic s (zto zs (k + 1)) := by
  apply Array.ext_getElem?
  intro i
  rw [Array.getElem?_setIfInBounds, pic_size _ _ (zto_size zs k)]
  cases i with
  | zero => rw [if_neg (by omega), pic_zero, pic_zero]
  | succ i =>
    rw [pic_succ, pic_succ, zto_get, zto_get]
    by_cases h1 : 1 + k = i + 1
    · obtain rfl : k = i := by omega
      simp [hk, show 1 + k = k + 1 by omega]
    · rw [if_neg h1]
      by_cases h2 : i < k
      · simp [h2, show i < k + 1 by omega]
      · simp [h2, show ¬ i < k + 1 by omega]

theorem eqz_fin (x : Nat) (h : eqz x = true) : fin x = true ∧ ltz x = false := by
  unfold eqz at h
  unfold ltz
  have h' : FloatKind.f32.format.order x 0 = some .eq := by simpa using h
  refine ⟨?_, by rw [h']; rfl⟩
  cases hf : fin x
  · exfalso
    have h0 : Ieee.single.read 0 = .number false 0 (-149) := by decide
    have h2 : (Ieee.single.read x).order (Ieee.single.read 0) = some .eq := h'
    rw [h0] at h2
    rcases inf_read x hf with ⟨s, hs⟩ | ⟨s, t, hs⟩
    · rw [hs] at h2
      cases s <;> simp [Ieee.Datum.order] at h2
    · rw [hs] at h2
      simp [Ieee.Datum.order] at h2
  · rfl

/-- where the first n levels are as they have to be -/
def restE (n : Nat) (zs : Array Value) (k : Nat) : Bool := decide (k < n) || eqz (bitsAt zs k)
theorem okTo_rest (n : Nat) (zs : Array Value) (h : okTo n zs n = true) (m : Nat) (hm : n ≤ m) : okTo n zs m = (List.range' 0 m).all (restE n zs) := by
  induction m with
  | zero =>
    obtain rfl : n = 0 := by omega
    rfl
  | succ m ih =>
    by_cases h1 : n = m + 1
    · subst h1
      rw [h, eq_comm, List.all_eq_true]
      intro k hk
      have : k < m + 1 := by simpa using hk
      simp [restE, this]
    · rw [okTo, ih (by omega), List.range'_1_concat, List.all_append]
      simp only [List.all_cons, List.all_nil, Bool.and_true, Nat.zero_add]
      congr 1
      have h2 : decide (m < n) = false := by simp; omega
      unfold okCell restE
      rw [h2, Bool.false_or]
      cases he : eqz (bitsAt zs m)
      · simp
      · obtain ⟨a, b⟩ := eqz_fin _ he
        simp [a, b]

theorem zto_eq (n : Nat) (zs : Array Value) (hz : Floats zs) : ∀ k, k < 64 → ∃ x y, (zto zs n)[k]? = some (.float .f32 x) ∧ zero64[k]? = some (.float .f32 y) ∧ Op.floatEq .f32 x y = restE n zs k := by
  intro k hk
  obtain ⟨x, _, hx⟩ := hz.2 k hk
  have hb := bitsAt_of zs k x hx
  have hg : zs.getD k undef = .float .f32 x := by rw [Array.getD_eq_getD_getElem?, hx]; rfl
  by_cases h : k < n
  · refine ⟨0, 0, by rw [zto_get, if_pos hk, if_pos h], by simp [zero64, hk], ?_⟩
    have : restE n zs k = true := by simp [restE, h]
    rw [this]
    decide
  · refine ⟨x, 0, by rw [zto_get, if_pos hk, if_neg h, hg], by simp [zero64, hk], ?_⟩
    unfold restE
    rw [hb, show decide (k < n) = false by simp [h], Bool.false_or]
    rfl

end Go.Proofs.Ytjmfffgddmnkmac
