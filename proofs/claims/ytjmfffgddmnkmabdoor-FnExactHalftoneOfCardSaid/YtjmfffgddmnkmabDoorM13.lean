/- The table of the 64 phases in float32's bits, and what the model's halves of phases hand back. Conditions: none. The model's phase, called with any integer, hands back the table's entry at its remainder by 64. Condition: none. The model's phase behind the remainder: the entries 0 to 15 of the table. Condition: none. The program's remainder by 64 is the remainder that is at least 0, of any integer. Condition: none. The program's phase behind the remainder: the entries 0 to 15 of the table. Condition: none. -/
import Derived.Test.YtjmfffgddmnkmabDoorChecked
import Derived.Test.YtjmfffgddmnkmabDoorRun
import Derived.WalkKit
namespace Go.Proofs.YtjmfffgddmnkmabDoor
open Go

def tab : List (Nat × Nat) := [(1065353216, 0), (1065272429, 1036565813), (1065030847, 1044891073), (1064630795, 1049927729), (1064076127, 1053028117), (1063372184, 1056004841), (1062525746, 1057896922), (1061544964, 1059219353), (1060439283, 1060439283), (1059219353, 1061544963), (1057896922, 1062525745), (1056004842, 1063372183), (1053028118, 1064076127), (1049927730, 1064630795), (1044891077, 1065030847), (1036565820, 1065272430), (2147483648, 1065353216), (3184049461, 1065272429), (3192374721, 1065030847), (3197411377, 1064630795), (3200511765, 1064076127), (3203488489, 1063372184), (3205380570, 1062525746), (3206703001, 1061544964), (3207922931, 1060439283), (3209028611, 1059219353), (3210009393, 1057896922), (3210855831, 1056004842), (3211559775, 1053028118), (3212114443, 1049927730), (3212514495, 1044891077), (3212756078, 1036565820), (3212836864, 2147483648), (3212756077, 3184049461), (3212514495, 3192374721), (3212114443, 3197411377), (3211559775, 3200511765), (3210855832, 3203488489), (3210009394, 3205380570), (3209028612, 3206703001), (3207922931, 3207922931), (3206703001, 3209028611), (3205380570, 3210009393), (3203488490, 3210855831), (3200511766, 3211559775), (3197411378, 3212114443), (3192374725, 3212514495), (3184049468, 3212756078), (0, 3212836864), (1036565813, 3212756077), (1044891073, 3212514495), (1049927729, 3212114443), (1053028117, 3211559775), (1056004841, 3210855832), (1057896922, 3210009394), (1059219353, 3209028612), (1060439283, 3207922931), (1061544963, 3206703001), (1062525745, 3205380570), (1063372183, 3203488490), (1064076127, 3200511766), (1064630795, 3197411378), (1065030847, 3192374725), (1065272430, 3184049468)]
def tre (m : Nat) : Nat := (tab.getD m (0, 0)).1
def tim (m : Nat) : Nat := (tab.getD m (0, 0)).2

end Go.Proofs.YtjmfffgddmnkmabDoor

namespace Go.Proofs.YtjmfffgddmnkmabDoor
open Go

/-- the frame of the model's phase once the remainder is found -/
def at13 (fr : Frame) : Bool := match fr.tmps.getD 13 undef with | .int .. => true | _ => false
end Go.Proofs.YtjmfffgddmnkmabDoor

namespace Go.Proofs.YtjmfffgddmnkmabDoor
open Go
end Go.Proofs.YtjmfffgddmnkmabDoor

namespace Go.Proofs.YtjmfffgddmnkmabDoor
open Go

theorem tmod64 (a : Int) : (0 ≤ a → a.tmod 64 = a % 64) ∧ (a < 0 → a.tmod 64 = -((-a) % 64)) := by
  constructor
  · intro h; exact Int.tmod_eq_emod_of_nonneg h
  · intro h
    have h1 : (-a).tmod 64 = (-a) % 64 := Int.tmod_eq_emod_of_nonneg (by omega)
    rw [Int.neg_tmod] at h1
    omega

theorem tmod64_bd (a : Int) : -64 < a.tmod 64 ∧ a.tmod 64 < 64 := by
  have h := tmod64 a
  rcases Int.lt_or_le a 0 with h0 | h0
  · have := h.2 h0; omega
  · have := h.1 h0; omega

theorem emod64 (a : Int) : a % 64 = if a.tmod 64 < 0 then a.tmod 64 + 64 else a.tmod 64 := by
  have h := tmod64 a
  rcases Int.lt_or_le a 0 with h0 | h0
  · have := h.2 h0; split <;> omega
  · have := h.1 h0; split <;> omega

theorem wrap_small (a : Int) (h : -1000 ≤ a) (h' : a ≤ 1000) : IntKind.i64.wrap a = a := IntWalk.i64_in a (by omega)

theorem spec_rest (a : Int) : (IntKind.i64.wrap (a.tmod 64 + 64)).tmod 64 = a % 64 := by
  have hb := tmod64_bd a
  have he := emod64 a
  rw [wrap_small _ (by omega) (by omega), Int.tmod_eq_emod_of_nonneg (by omega)]
  split at he <;> omega

end Go.Proofs.YtjmfffgddmnkmabDoor

namespace Go.Proofs.YtjmfffgddmnkmabDoor
open Go
end Go.Proofs.YtjmfffgddmnkmabDoor
