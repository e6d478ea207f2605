/- The laws' comparison of two floats, of two complex numbers, holds one that is no NaN equal to itself. Condition: no NaN. The laws' sum of a list of small numbers. Condition: at most 8 numbers of 0 to 64. Lists of the same numbers are alike. Condition: at most 8 numbers. -/
import Derived.Test.YtdmeinaonliphabFinW
import Derived.Laws.ComplexArith
import Derived.Test.YtdmeinaonliphabM1
import Derived.Outline
import Derived.Deep.CutBlock
import Derived.Deep.DeepCutAuto
import Derived.Deep.QuietTactic
import Derived.BigQuiet
namespace Go.Proofs.Ytdmeinaonliphab
open Go Go.RowKit

/-- equal to itself -/
def own (x : Nat) : Bool := FloatKind.f64.format.order x x == some .eq
def zer (x : Nat) : Bool := FloatKind.f64.format.order x 0 == some .eq

theorem int_cmp_self (a : Int) : compare a a = .eq := by
  show compareOfLessAndEq a a = .eq
  unfold compareOfLessAndEq
  rw [if_neg (by omega), if_pos rfl]

theorem own_number (x : Nat) (s : Bool) (m : Nat) (p : Int) (h : Ieee.double.read x = .number s m p) : own x = true := by
  unfold own
  have : FloatKind.f64.format.order x x = some .eq := by
    show (Ieee.double.read x).order (Ieee.double.read x) = _
    rw [h]
    simp only [Ieee.Datum.order, int_cmp_self]
  rw [this]
  rfl

theorem zer_div (x : Nat) (h : zer x = true) : ∃ r, floatBits .quo .f64 4607182418800017408 x = some r := by
  have h1 : FloatKind.f64.format.order x 0 = some .eq := by simpa [zer] using h
  have h2 : (Ieee.double.read x).order (Ieee.double.read 0) = some .eq := h1
  have h0 : Ieee.double.read 0 = .number false 0 (-1074) := by decide
  have h3 : Ieee.double.read 4607182418800017408 = .number false 4503599627370496 (-52) := by decide
  rw [h0] at h2
  unfold floatBits
  show ∃ r, Ieee.double.div 4607182418800017408 x = some r
  unfold Ieee.Format.div
  rw [h3]
  cases hr : Ieee.double.read x with
  | number s m p =>
    simp only [Ieee.Datum.quotient]
    split
    · exact ⟨_, rfl⟩
    · exact ⟨_, rfl⟩
  | infinity s => exact ⟨_, rfl⟩
  | nan s t =>
    rw [hr] at h2
    simp [Ieee.Datum.order] at h2

end Go.Proofs.Ytdmeinaonliphab

namespace Go.Proofs.Ytdmeinaonliphab
open Go Go.RowKit

def tot (f : Nat → Int) : Nat → Int
  | 0 => 0
  | k + 1 => tot f k + f k
theorem tot_small (f : Nat → Int) (k : Nat) (h : ∀ i, i < k → 0 ≤ f i ∧ f i ≤ 64) : 0 ≤ tot f k ∧ tot f k ≤ 64 * k := by
  induction k with
  | zero => simp [tot]
  | succ k ih =>
    have h1 := ih (fun i hi => h i (by omega))
    have h2 := h k (by omega)
    rw [tot]
    omega

set_option maxRecDepth 100000 in
set_option maxHeartbeats 400000 in
theorem sum_any (b off L cap : Nat) (f : Nat → Int) (hL : L ≤ 8) (hf : ∀ i, i < L → 0 ≤ f i ∧ f i ≤ 64) (w : World) (hc : ∀ i, i < L → w.cell? ⟨b, off + i, none⟩ = some (.int .i64 (f i))) :
    Calls Try.prog 15 #[.slice (some ⟨b, off, none⟩) L cap] w fun e w' => e = .returned (.int .i64 (tot f L)) ∧ w' = w := by
  have HC := Lib.hid hc
  have HF := Lib.hid hf
  clear hc hf
  go_enter Try.func15, Try.ntmps15
  go_wp2
  go_loopw [3, 4] (fun a i wr => ∃ k : Nat, k ≤ L ∧ i = .int .i64 k ∧ a = .int .i64 (tot f k) ∧ wr = w) (fun _ i _ => L - (intOf i).toNat)
  case atStart => exact ⟨0, by omega, rfl, rfl, rfl⟩
  case round =>
    obtain ⟨k, hk, rfl, rfl, rfl⟩ := hrel
    by_cases hlt : k < L
    · have hdk : decide ((k : Int) < (L : Int)) = true := by simp; omega
      have c := HC.out k hlt
      have h1 := HF.out k hlt
      have h2 := tot_small f k (fun i hi => HF.out i (by omega))
      have hw : IntKind.i64.wrap (tot f k + f k) = tot f k + f k := IntWalk.i64_in _ (by omega)
      have HT : Hid (tot f (k + 1) = tot f k + f k) := Lib.hid rfl
      generalize tot f k = a at *
      generalize f k = x at *
      go_wp2
      exact ⟨⟨k + 1, by omega, by go_num, by rw [HT.out], by trivial⟩, by simp [intOf]; omega⟩
    · obtain rfl : k = L := by omega
      go_wp2
      go_ret
      exact ⟨rfl, by trivial⟩
end Go.Proofs.Ytdmeinaonliphab

namespace Go.Proofs.Ytdmeinaonliphab
open Go Go.RowKit

set_option maxRecDepth 100000 in
set_option maxHeartbeats 400000 in
theorem like_none (w : World) : Calls Try.prog 24 #[.slice none 0 0, .slice none 0 0] w fun e w' => e = .returned (.bool true) ∧ Below w.heap.size w w' := by
  go_enter Try.func24, Try.ntmps24
  go_wp2
  refine wp_loop_rounds 1 ?_
  rw [rounds_succ]
  go_wp2
  go_ret
  exact ⟨rfl, Below.refl _ _⟩

set_option maxRecDepth 100000 in
set_option maxHeartbeats 800000 in
theorem like_same (b1 b2 L cap1 cap2 : Nat) (f : Nat → Int) (w : World) (hL : L ≤ 8) (h1 : ∀ i, i < L → w.cell? ⟨b1, 0 + i, none⟩ = some (.int .i64 (f i))) (h2 : ∀ i, i < L → w.cell? ⟨b2, 0 + i, none⟩ = some (.int .i64 (f i))) :
    Calls Try.prog 24 #[.slice (some ⟨b1, 0, none⟩) L cap1, .slice (some ⟨b2, 0, none⟩) L cap2] w fun e w' => e = .returned (.bool true) ∧ Below w.heap.size w w' := by
  have H1 := Lib.hid h1
  have H2 := Lib.hid h2
  clear h1 h2
  go_enter Try.func24, Try.ntmps24
  go_wp2
  go_loopw [5] (fun i wr => ∃ k : Nat, k ≤ L ∧ i = .int .i64 k ∧ Hid (∀ i, i < L → wr.cell? ⟨b1, 0 + i, none⟩ = some (.int .i64 (f i))) ∧ Hid (∀ i, i < L → wr.cell? ⟨b2, 0 + i, none⟩ = some (.int .i64 (f i))) ∧ Hid (Below w.heap.size w wr)) (fun i _ => L - (intOf i).toNat)
  case atStart => exact ⟨0, by omega, rfl, H1, H2, Lib.hid (Below.refl _ _)⟩
  case round =>
    obtain ⟨k, hk, rfl, G1, G2, B⟩ := hrel
    clear H1 H2
    by_cases hlt : k < L
    · have hdk : decide ((k : Int) < (L : Int)) = true := by simp; omega
      have c := G1.out k hlt
      have c2 := G2.out k hlt
      rw [Nat.zero_add] at c c2
      have hk0 : (0 : Int) ≤ (k : Int) := by omega
      have hkL : (k : Int) < (L : Int) := by omega
      generalize f k = x at c c2
      go_upto_region 6 with fail
      go_quiet (fail)
      go_wp2
      exact ⟨⟨k + 1, by omega, by go_num, Lib.hid (fun i hi => by rw [World.cell?_drewN]; exact G1.out i hi), Lib.hid (fun i hi => by rw [World.cell?_drewN]; exact G2.out i hi), Lib.hid (below_drewN B.out _)⟩, by simp [intOf]; omega⟩
    · obtain rfl : k = L := by omega
      go_wp2
      go_ret
      exact ⟨rfl, B.out⟩
end Go.Proofs.Ytdmeinaonliphab
