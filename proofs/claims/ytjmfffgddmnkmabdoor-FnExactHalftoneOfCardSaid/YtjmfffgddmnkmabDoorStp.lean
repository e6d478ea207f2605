/- The step of a level, in the program and in the model. Condition: the level is a number of at least 0, q one that is greater than 0, and there are 2 to 256 steps. -/
import Derived.Test.YtjmfffgddmnkmabDoorQf
import Derived.Test.YtjmfffgddmnkmabDoorM32
import Derived.Test.YtjmfffgddmnkmabDoorM21
import Derived.Laws.FloatArith
namespace Go.Proofs.YtjmfffgddmnkmabDoor
open Go Go.RowKit

/-- at most 0 -/
def leZ (x : Nat) : Bool := FloatKind.f32.format.order x 0 == some .lt || FloatKind.f32.format.order x 0 == some .eq
theorem gtz_of (x : Nat) (hf : fin x = true) (h : leZ x = false) : gtz x = true := by
  obtain ⟨s, m, p, hr, _⟩ := fin_read2 x hf
  have h0 : Ieee.single.read 0 = .number false 0 (-149) := by decide
  have ho : ∃ o, FloatKind.f32.format.order x 0 = some o := by
    show ∃ o, (Ieee.single.read x).order (Ieee.single.read 0) = some o
    rw [hr, h0]
    exact ⟨_, rfl⟩
  obtain ⟨o, ho⟩ := ho
  unfold leZ at h
  unfold gtz
  rw [ho] at h ⊢
  cases o <;> simp_all
def quoF (x q : Nat) : Nat := (Ieee.single.div x q).getD 0
def halfF (r : Nat) : Nat := (Ieee.single.add r 1056964608).getD 0
/-- the step of a level -/
def lvlStep (x q : Nat) (m : Int) : Int := if geF (quoF x q) (floatOfInt .f32 (m - 1)) then m - 1 else (floatToIntVal .f32 (halfF (quoF x q)) .i64).getD 0
theorem step_facts (x q : Nat) (m : Int) (hx : fin x = true) (hx0 : ltz x = false) (hq : fin q = true) (hq0 : leZ q = false) (hm : 2 ≤ m ∧ m ≤ 256) :
    floatBits .quo .f32 x q = some (quoF x q) ∧ (geF (quoF x q) (floatOfInt .f32 (m - 1)) = true → lvlStep x q m = m - 1) ∧
    (geF (quoF x q) (floatOfInt .f32 (m - 1)) = false → floatBits .add .f32 (quoF x q) 1056964608 = some (halfF (quoF x q)) ∧ floatToIntVal .f32 (halfF (quoF x q)) .i64 = some (lvlStep x q m)) := by
  obtain ⟨r, hr, hu⟩ := div_up x q (up_fin x hx hx0) hq (gtz_of q hq hq0)
  have e1 : quoF x q = r := by unfold quoF; rw [hr]; rfl
  unfold lvlStep
  rw [e1]
  refine ⟨hr, fun h => by rw [if_pos h], fun h => ?_⟩
  obtain ⟨M, P, l1, l2, l3, l4⟩ := last_read ⟨(m - 1).toNat, by omega⟩ (by show 0 < (m - 1).toNat; omega)
  have e2 : (((m - 1).toNat : Nat) : Int) = m - 1 := by omega
  simp only [e2] at l1
  obtain ⟨y, n, h1, h2, _⟩ := half_whole r (floatOfInt .f32 (m - 1)) hu ⟨M, P, l1, l2, l3, l4⟩ h
  have e3 : halfF r = y := by unfold halfF; rw [h1]; rfl
  rw [e3]
  refine ⟨h1, ?_⟩
  rw [if_neg (by rw [h]; decide), h2]
  rfl

end Go.Proofs.YtjmfffgddmnkmabDoor
