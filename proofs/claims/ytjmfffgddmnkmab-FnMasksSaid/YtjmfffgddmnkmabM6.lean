/- Whether a complex number is one, in both ways to ask. Condition: none. The table of the 64 phases in float32's bits, and what the model's halves of phases hand back. Conditions: none. The model's phase, called with any integer, hands back the table's entry at its remainder by 64. Condition: none. The model's phase behind the remainder: the entries 0 to 15 of the table. Condition: none. -/
import Derived.Test.YtjmfffgddmnkmabM5
import Derived.Test.YtjmfffgddmnkmabChecked
import Derived.Test.YtjmfffgddmnkmabRun
namespace Go.Proofs.Ytjmfffgddmnkmab
open Go Go.RowKit

set_option maxRecDepth 100000 in
set_option maxHeartbeats 400000 in
theorem isComplex_any (x y : Nat) (w : World) : Calls Try.prog 119 #[.complex .f32 x y] w fun e w' => e = .returned (.bool (fin x && fin y)) ∧ ∃ n, w' = w.drewN n := by
  have HX := Lib.hid (finite_any x)
  have HY := Lib.hid (finite_any y)
  cases hx : fin x <;> rw [hx] at HX
  · go_enter Try.func119, Try.ntmps119
    go_wp2_with fail
    refine (HX.out _).mono ?_
    rintro e w1 ⟨rfl, n1, rfl⟩
    go_wp2
    go_ret
    exact ⟨rfl, _, rfl⟩
  · go_enter Try.func119, Try.ntmps119
    go_wp2_with fail
    refine (HX.out _).mono ?_
    rintro e w1 ⟨rfl, n1, rfl⟩
    go_wp2_with fail
    refine (HY.out _).mono ?_
    rintro e w1 ⟨rfl, n2, rfl⟩
    go_wp2
    go_ret
    exact ⟨by simp, _, rfl⟩

set_option maxRecDepth 100000 in
set_option maxHeartbeats 400000 in
theorem whole_any (x y : Nat) (w : World) : Calls Try.prog 124 #[.complex .f32 x y] w fun e w' => e = .returned (.bool (fin x && fin y)) ∧ ∃ n, w' = w.drewN n := by
  have HX := Lib.hid (fine_any x)
  have HY := Lib.hid (fine_any y)
  cases hx : fin x <;> rw [hx] at HX
  · go_enter Try.func124, Try.ntmps124
    go_wp2_with fail
    refine (HX.out _).mono ?_
    rintro e w1 ⟨rfl, n1, rfl⟩
    go_wp2
    go_ret
    exact ⟨rfl, _, rfl⟩
  · go_enter Try.func124, Try.ntmps124
    go_wp2_with fail
    refine (HX.out _).mono ?_
    rintro e w1 ⟨rfl, n1, rfl⟩
    go_wp2_with fail
    refine (HY.out _).mono ?_
    rintro e w1 ⟨rfl, n2, rfl⟩
    go_wp2
    go_ret
    exact ⟨by simp, _, rfl⟩
end Go.Proofs.Ytjmfffgddmnkmab

namespace Go.Proofs.Ytjmfffgddmnkmab
open Go

def tab : List (Nat × Nat) := [(1065353216, 0), (1065272429, 1036565813), (1065030847, 1044891073), (1064630795, 1049927729), (1064076127, 1053028117), (1063372184, 1056004841), (1062525746, 1057896922), (1061544964, 1059219353), (1060439283, 1060439283), (1059219353, 1061544963), (1057896922, 1062525745), (1056004842, 1063372183), (1053028118, 1064076127), (1049927730, 1064630795), (1044891077, 1065030847), (1036565820, 1065272430), (2147483648, 1065353216), (3184049461, 1065272429), (3192374721, 1065030847), (3197411377, 1064630795), (3200511765, 1064076127), (3203488489, 1063372184), (3205380570, 1062525746), (3206703001, 1061544964), (3207922931, 1060439283), (3209028611, 1059219353), (3210009393, 1057896922), (3210855831, 1056004842), (3211559775, 1053028118), (3212114443, 1049927730), (3212514495, 1044891077), (3212756078, 1036565820), (3212836864, 2147483648), (3212756077, 3184049461), (3212514495, 3192374721), (3212114443, 3197411377), (3211559775, 3200511765), (3210855832, 3203488489), (3210009394, 3205380570), (3209028612, 3206703001), (3207922931, 3207922931), (3206703001, 3209028611), (3205380570, 3210009393), (3203488490, 3210855831), (3200511766, 3211559775), (3197411378, 3212114443), (3192374725, 3212514495), (3184049468, 3212756078), (0, 3212836864), (1036565813, 3212756077), (1044891073, 3212514495), (1049927729, 3212114443), (1053028117, 3211559775), (1056004841, 3210855832), (1057896922, 3210009394), (1059219353, 3209028612), (1060439283, 3207922931), (1061544963, 3206703001), (1062525745, 3205380570), (1063372183, 3203488490), (1064076127, 3200511766), (1064630795, 3197411378), (1065030847, 3192374725), (1065272430, 3184049468)]
def tre (m : Nat) : Nat := (tab.getD m (0, 0)).1
def tim (m : Nat) : Nat := (tab.getD m (0, 0)).2

theorem half_a (w : World) : Calls Try.prog 138 #[.float .f32 0, .float .f32 1065353216] w fun e w' => e = .returned (.tuple #[.float .f32 1060439283, .float .f32 1060439283]) ∧ w = w' :=
  calls_of (fun _ => false) (known_none _) 9999 (fun cs => by kernel_rfl)
theorem half_b (w : World) : Calls Try.prog 138 #[.float .f32 1060439283, .float .f32 1060439283] w fun e w' => e = .returned (.tuple #[.float .f32 1064076127, .float .f32 1053028117]) ∧ w = w' :=
  calls_of (fun _ => false) (known_none _) 9999 (fun cs => by kernel_rfl)
theorem half_c (w : World) : Calls Try.prog 138 #[.float .f32 1064076127, .float .f32 1053028117] w fun e w' => e = .returned (.tuple #[.float .f32 1065030847, .float .f32 1044891073]) ∧ w = w' :=
  calls_of (fun _ => false) (known_none _) 9999 (fun cs => by kernel_rfl)
theorem half_d (w : World) : Calls Try.prog 138 #[.float .f32 1065030847, .float .f32 1044891073] w fun e w' => e = .returned (.tuple #[.float .f32 1065272429, .float .f32 1036565813]) ∧ w = w' :=
  calls_of (fun _ => false) (known_none _) 9999 (fun cs => by kernel_rfl)

/-- what is known of the model's halves -/
def memoHalf (g : FuncId) (args : Array Value) : Option Value :=
  if g = 138 then
    match args.toList with
    | [.float .f32 a, .float .f32 b] =>
      if a = 0 ∧ b = 1065353216 then some (.tuple #[.float .f32 1060439283, .float .f32 1060439283])
      else if a = 1060439283 ∧ b = 1060439283 then some (.tuple #[.float .f32 1064076127, .float .f32 1053028117])
      else if a = 1064076127 ∧ b = 1053028117 then some (.tuple #[.float .f32 1065030847, .float .f32 1044891073])
      else if a = 1065030847 ∧ b = 1044891073 then some (.tuple #[.float .f32 1065272429, .float .f32 1036565813])
      else none
    | _ => none
  else none

theorem known_half : Known Try.prog memoHalf := by
  intro g args v h w
  unfold memoHalf at h
  split at h
  · rename_i hg
    subst hg
    split at h
    · rename_i a b hl
      obtain ⟨l⟩ := args
      simp only at hl
      subst hl
      split at h
      · rename_i hab
        obtain ⟨rfl, rfl⟩ := hab
        cases h
        exact half_a w
      · split at h
        · rename_i hab
          obtain ⟨rfl, rfl⟩ := hab
          cases h
          exact half_b w
        · split at h
          · rename_i hab
            obtain ⟨rfl, rfl⟩ := hab
            cases h
            exact half_c w
          · split at h
            · rename_i hab
              obtain ⟨rfl, rfl⟩ := hab
              cases h
              exact half_d w
            · cases h
    · cases h
  · cases h

end Go.Proofs.Ytjmfffgddmnkmab

namespace Go.Proofs.Ytjmfffgddmnkmab
open Go

/-- the frame of the model's phase once the remainder is found -/
def at13 (fr : Frame) : Bool := match fr.tmps.getD 13 undef with | .int .. => true | _ => false
noncomputable def frSpec (w : World) (k x y e : Int) : Frame :=
  { topOf (runM Try.prog (fun _ => false) (fun _ _ => none) at13 99 (Frame.enter Try.prog 125 #[.int .i64 0] .normal) [] w) with
    tmps := slots 54 [(0, .int .i64 k), (2, .complex .f32 0 0), (10, .int .i64 k), (11, .int .i64 x), (12, .int .i64 y), (13, .int .i64 e)] }

theorem spec_head (w : World) (k : Int) (cs : List Frame) :
    runM Try.prog (fun _ => false) (fun _ _ => none) at13 99 (Frame.enter Try.prog 125 #[.int .i64 k] .normal) cs w =
      some (frSpec w k (k.tmod 64) (IntKind.i64.wrap (k.tmod 64 + 64)) ((IntKind.i64.wrap (k.tmod 64 + 64)).tmod 64), cs, w) := by kernel_rfl

end Go.Proofs.Ytjmfffgddmnkmab

namespace Go.Proofs.Ytjmfffgddmnkmab
open Go
theorem spec_0 (w : World) (k x y : Int) (cs : List Frame) :
    outM Try.prog (fun g => g == 138) memoHalf 9999 125 (frSpec w k x y 0) cs w = some (.complex .f32 (tre 0) (tim 0), cs, w, w) := by kernel_rfl
theorem spec_1 (w : World) (k x y : Int) (cs : List Frame) :
    outM Try.prog (fun g => g == 138) memoHalf 9999 125 (frSpec w k x y 1) cs w = some (.complex .f32 (tre 1) (tim 1), cs, w, w) := by kernel_rfl
theorem spec_2 (w : World) (k x y : Int) (cs : List Frame) :
    outM Try.prog (fun g => g == 138) memoHalf 9999 125 (frSpec w k x y 2) cs w = some (.complex .f32 (tre 2) (tim 2), cs, w, w) := by kernel_rfl
theorem spec_3 (w : World) (k x y : Int) (cs : List Frame) :
    outM Try.prog (fun g => g == 138) memoHalf 9999 125 (frSpec w k x y 3) cs w = some (.complex .f32 (tre 3) (tim 3), cs, w, w) := by kernel_rfl
theorem spec_4 (w : World) (k x y : Int) (cs : List Frame) :
    outM Try.prog (fun g => g == 138) memoHalf 9999 125 (frSpec w k x y 4) cs w = some (.complex .f32 (tre 4) (tim 4), cs, w, w) := by kernel_rfl
theorem spec_5 (w : World) (k x y : Int) (cs : List Frame) :
    outM Try.prog (fun g => g == 138) memoHalf 9999 125 (frSpec w k x y 5) cs w = some (.complex .f32 (tre 5) (tim 5), cs, w, w) := by kernel_rfl
theorem spec_6 (w : World) (k x y : Int) (cs : List Frame) :
    outM Try.prog (fun g => g == 138) memoHalf 9999 125 (frSpec w k x y 6) cs w = some (.complex .f32 (tre 6) (tim 6), cs, w, w) := by kernel_rfl
theorem spec_7 (w : World) (k x y : Int) (cs : List Frame) :
    outM Try.prog (fun g => g == 138) memoHalf 9999 125 (frSpec w k x y 7) cs w = some (.complex .f32 (tre 7) (tim 7), cs, w, w) := by kernel_rfl
theorem spec_8 (w : World) (k x y : Int) (cs : List Frame) :
    outM Try.prog (fun g => g == 138) memoHalf 9999 125 (frSpec w k x y 8) cs w = some (.complex .f32 (tre 8) (tim 8), cs, w, w) := by kernel_rfl
theorem spec_9 (w : World) (k x y : Int) (cs : List Frame) :
    outM Try.prog (fun g => g == 138) memoHalf 9999 125 (frSpec w k x y 9) cs w = some (.complex .f32 (tre 9) (tim 9), cs, w, w) := by kernel_rfl
theorem spec_10 (w : World) (k x y : Int) (cs : List Frame) :
    outM Try.prog (fun g => g == 138) memoHalf 9999 125 (frSpec w k x y 10) cs w = some (.complex .f32 (tre 10) (tim 10), cs, w, w) := by kernel_rfl
theorem spec_11 (w : World) (k x y : Int) (cs : List Frame) :
    outM Try.prog (fun g => g == 138) memoHalf 9999 125 (frSpec w k x y 11) cs w = some (.complex .f32 (tre 11) (tim 11), cs, w, w) := by kernel_rfl
theorem spec_12 (w : World) (k x y : Int) (cs : List Frame) :
    outM Try.prog (fun g => g == 138) memoHalf 9999 125 (frSpec w k x y 12) cs w = some (.complex .f32 (tre 12) (tim 12), cs, w, w) := by kernel_rfl
theorem spec_13 (w : World) (k x y : Int) (cs : List Frame) :
    outM Try.prog (fun g => g == 138) memoHalf 9999 125 (frSpec w k x y 13) cs w = some (.complex .f32 (tre 13) (tim 13), cs, w, w) := by kernel_rfl
theorem spec_14 (w : World) (k x y : Int) (cs : List Frame) :
    outM Try.prog (fun g => g == 138) memoHalf 9999 125 (frSpec w k x y 14) cs w = some (.complex .f32 (tre 14) (tim 14), cs, w, w) := by kernel_rfl
theorem spec_15 (w : World) (k x y : Int) (cs : List Frame) :
    outM Try.prog (fun g => g == 138) memoHalf 9999 125 (frSpec w k x y 15) cs w = some (.complex .f32 (tre 15) (tim 15), cs, w, w) := by kernel_rfl
end Go.Proofs.Ytjmfffgddmnkmab
