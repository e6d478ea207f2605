/- Plain facts on equal numbers and on the cells of waves. Condition: none. The laws' sum of a list of small numbers. Condition: at most 8 numbers of 0 to 64. -/
import Derived.Test.YtjmfffgddmnkmabGw
import Derived.Test.YtjmfffgddmnkmabEqC
import Derived.Test.YtjmfffgddmnkmabM0
import Derived.Outline
namespace Go.Proofs.Ytjmfffgddmnkmab
open Go Go.RowKit

theorem order_symm (a b : Ieee.Datum) (h : a.order b = some .eq) : b.order a = some .eq := by
  cases a with
  | nan s t => simp [Ieee.Datum.order] at h
  | infinity s =>
    cases b with
    | nan s t => simp [Ieee.Datum.order] at h
    | infinity t => cases s <;> cases t <;> simp [Ieee.Datum.order] at h ⊢
    | number t n j => cases s <;> simp [Ieee.Datum.order] at h
  | number s m i =>
    cases b with
    | nan s t => simp [Ieee.Datum.order] at h
    | infinity t => cases t <;> simp [Ieee.Datum.order] at h
    | number t n j =>
      simp only [Ieee.Datum.order, Option.some.injEq] at h ⊢
      rw [Std.LawfulEqCmp.compare_eq_iff_eq] at h ⊢
      rw [Int.min_comm j i]
      exact h.symm
theorem feq_symm (x y : Nat) (h : Op.floatEq .f32 x y = true) : Op.floatEq .f32 y x = true := by
  unfold Op.floatEq at *
  have h' : FloatKind.f32.format.order x y = some .eq := by simpa using h
  have : FloatKind.f32.format.order y x = some .eq := order_symm _ _ h'
  rw [this]; rfl

theorem wav_at (s : Int) (D : Array Value) (hD : Wav s D) (k : Nat) (hk : k < 64) : D[1 + k]? = some (.complex .f32 (reAt D k) (imAt D k)) := by
  obtain ⟨x, y, h⟩ := hD.2.2 k hk
  obtain ⟨e1, e2⟩ := at_of D k x y h
  rw [e1, e2]; exact h
theorem place_of (s k : Nat) (hs : 0 < s) (hk : k < s * s) : ∃ y x, y < s ∧ x < s ∧ k = s * y + x :=
  ⟨k / s, k % s, Nat.div_lt_of_lt_mul hk, Nat.mod_lt _ hs, (Nat.div_add_mod k s).symm⟩

theorem wav_ext (s : Int) (A B : Array Value) (hA : Wav s A) (hB : Wav s B) (h : ∀ k, k < 64 → A[1 + k]? = B[1 + k]?) : A = B := by
  apply Array.ext_getElem?
  intro i
  cases i with
  | zero => rw [hA.2.1, hB.2.1]
  | succ i =>
    by_cases hi : i < 64
    · rw [Nat.add_comm]; exact h i hi
    · rw [Array.getElem?_eq_none (by rw [hA.1]; omega), Array.getElem?_eq_none (by rw [hB.1]; omega)]
end Go.Proofs.Ytjmfffgddmnkmab

namespace Go.Proofs.Ytjmfffgddmnkmab
open Go Go.RowKit

def tot (f : Nat → Int) : Nat → Int
  | 0 => 0
  | k + 1 => tot f k + f k
theorem tot_small (f : Nat → Int) (k : Nat) (h : ∀ i, i < k → 0 ≤ f i ∧ f i ≤ 64) : 0 ≤ tot f k ∧ tot f k ≤ 64 * k := by
  induction k with
  | zero => simp [tot]
  | succ k ih =>
    have h1 := ih (fun i hi => h i (by omega))
    have h2 := h k (by omega)
    rw [tot]
    omega

set_option maxRecDepth 100000 in
set_option maxHeartbeats 400000 in
theorem sum_any (b off L cap : Nat) (f : Nat → Int) (hL : L ≤ 8) (hf : ∀ i, i < L → 0 ≤ f i ∧ f i ≤ 64) (w : World) (hc : ∀ i, i < L → w.cell? ⟨b, off + i, none⟩ = some (.int .i64 (f i))) :
    Calls Try.prog 23 #[.slice (some ⟨b, off, none⟩) L cap] w fun e w' => e = .returned (.int .i64 (tot f L)) ∧ w' = w := by
  have HC := Lib.hid hc
  have HF := Lib.hid hf
  clear hc hf
  go_enter Try.func23, Try.ntmps23
  go_wp2
  go_loopw [3, 4] (fun a i wr => ∃ k : Nat, k ≤ L ∧ i = .int .i64 k ∧ a = .int .i64 (tot f k) ∧ wr = w) (fun _ i _ => L - (intOf i).toNat)
  case atStart => exact ⟨0, by omega, rfl, rfl, rfl⟩
  case round =>
    obtain ⟨k, hk, rfl, rfl, rfl⟩ := hrel
    by_cases hlt : k < L
    · have hdk : decide ((k : Int) < (L : Int)) = true := by simp; omega
      have c := HC.out k hlt
      have h1 := HF.out k hlt
      have h2 := tot_small f k (fun i hi => HF.out i (by omega))
      have hw : IntKind.i64.wrap (tot f k + f k) = tot f k + f k := IntWalk.i64_in _ (by omega)
      have HT : Hid (tot f (k + 1) = tot f k + f k) := Lib.hid rfl
      generalize tot f k = a at *
      generalize f k = x at *
      go_wp2
      exact ⟨⟨k + 1, by omega, by go_num, by rw [HT.out], by trivial⟩, by simp [intOf]; omega⟩
    · obtain rfl : k = L := by omega
      go_wp2
      go_ret
      exact ⟨rfl, by trivial⟩
end Go.Proofs.Ytjmfffgddmnkmab
