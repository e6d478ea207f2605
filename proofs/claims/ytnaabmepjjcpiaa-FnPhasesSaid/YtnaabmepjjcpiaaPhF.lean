/- Plain facts on the table of phases and on codes. Condition: none. -/
import Derived.Test.YtnaabmepjjcpiaaDCl
import Derived.Test.YtnaabmepjjcpiaaRoll
import Derived.Test.YtnaabmepjjcpiaaDPl
import Derived.Test.YtnaabmepjjcpiaaIFl
import Derived.Test.YtnaabmepjjcpiaaICe
import Derived.Test.YtnaabmepjjcpiaaImplW
namespace Go.Proofs.Ytnaabmepjjcpiaa
open Go Go.RowKit

/-- Go's == of two floats of 32 bits -/
def fe (x y : Nat) : Bool := FloatKind.f32.format.order x y == some .eq
theorem tab_self : ∀ m, m < 64 → fe (tre m) (tre m) = true ∧ fe (tim m) (tim m) = true := by decide
theorem tab_half : ∀ m, m < 64 → fe (tre ((m + 32) % 64)) (Op.negFloat .f32 (tre m)) = true ∧ fe (tim ((m + 32) % 64)) (Op.negFloat .f32 (tim m)) = true := by decide
theorem tab_turn : ∀ m, m < 64 → fe (tre ((m + 16) % 64)) (Op.negFloat .f32 (tim m)) = true ∧ fe (tim ((m + 16) % 64)) (tre m) = true := by decide
theorem tab_quarter : ∀ m, m < 64 → m % 16 = 0 → fe (tre m) 0 = true ∨ fe (tim m) 0 = true := by decide

theorem Code.below {ad : Option Addr} {len : Nat} {w w' : World} (h : Code ad len w) (b : Below w.heap.size w w') : Code ad len w' := by
  refine ⟨h.1, fun h0 => ?_⟩
  obtain ⟨cb, off, e, lt, hb⟩ := h.2 h0
  refine ⟨cb, off, e, Nat.lt_of_lt_of_le lt b.size, fun i hi => ?_⟩
  obtain ⟨y, y0, y1, hy⟩ := hb i hi
  exact ⟨y, y0, y1, by rw [World.cell?_of_block (w := w) (b.block cb lt)]; exact hy⟩

theorem turn_facts (k : Int) : ∃ K : Int, k.tmod 64 = K ∧ (-63 ≤ K ∧ K ≤ 63) ∧ ((K + 64) % 64).toNat = (k % 64).toNat ∧ ((K + 32) % 64).toNat = ((k % 64).toNat + 32) % 64 ∧ ((K + 16) % 64).toNat = ((k % 64).toNat + 16) % 64 ∧ (K.tmod 16 = 0 → (k % 64).toNat % 16 = 0) := by
  have h1 := Int.mul_tdiv_add_tmod k 64
  have h2 : -64 < k.tmod 64 ∧ k.tmod 64 < 64 := by
    rcases Int.le_total 0 k with h | h
    · have := Int.tmod_nonneg 64 h; have := Int.tmod_lt_of_pos k (show (0 : Int) < 64 by omega); omega
    · have e : k.tmod 64 = -((-k).tmod 64) := by rw [Int.neg_tmod, Int.neg_neg]
      have := Int.tmod_nonneg 64 (show 0 ≤ -k by omega); have := Int.tmod_lt_of_pos (-k) (show (0 : Int) < 64 by omega); omega
  have h3 := Int.mul_tdiv_add_tmod (k.tmod 64) 16
  refine ⟨k.tmod 64, rfl, by omega, by omega, by omega, by omega, fun h => by omega⟩
end Go.Proofs.Ytnaabmepjjcpiaa
