/- The law of the program's phase up to its comparison, and spec.PhaseOf. Condition: none. -/
import Derived.Test.YtokdhggajpklcaaPhase
namespace Go.Proofs.Ytokdhggajpklcaa
open Go

def memoPhase (g : FuncId) (args : Array Value) : Option Value :=
  if g = 15 ∨ g = 7 then
    match args.toList with
    | [.int .i64 k] => some (.complex .f32 (tre (k % 64).toNat) (tim (k % 64).toNat))
    | _ => none
  else none

theorem known_phase : Known Try.prog memoPhase := by
  intro g args v h w
  unfold memoPhase at h
  split at h
  · rename_i hg
    split at h
    · rename_i k hl
      obtain ⟨l⟩ := args
      simp only at hl
      subst hl
      cases h
      rcases hg with rfl | rfl
      · exact spec_phase k w
      · exact impl_phase k w
    · cases h
  · cases h

theorem spec_phaseOf (k : Int) (w : World) : Calls Try.prog 6 #[.int .i64 k] w fun e w' => e = .returned (.complex .f32 (tre (k % 64).toNat) (tim (k % 64).toNat)) ∧ w = w' :=
  calls_of (fun g => g == 15) known_phase 999 (fun cs => by kernel_rfl)

/-- the law's frame once the program has answered -/
def at8 (fr : Frame) : Bool := fr.fn == 3 && match fr.tmps.getD 8 undef with | .complex .. => true | _ => false
noncomputable def frLaw (w : World) (k : Int) (a b : Nat) : Frame :=
  { topOf (runM Try.prog (fun g => g == 15 || g == 7) memoPhase at8 99 (Frame.enter Try.prog 3 #[.int .i64 0] .normal) [] w) with
    tmps := slots 15 [(0, .int .i64 k), (2, .bool false), (3, .complex .f32 a b), (5, .int .i64 k), (6, .complex .f32 a b), (7, .int .i64 k), (8, .complex .f32 a b)] }

theorem law_head (w : World) (k : Int) (cs : List Frame) :
    runM Try.prog (fun g => g == 15 || g == 7) memoPhase at8 99 (Frame.enter Try.prog 3 #[.int .i64 k] .normal) cs w =
      some (frLaw w k (tre (k % 64).toNat) (tim (k % 64).toNat), cs, w) := by kernel_rfl

end Go.Proofs.Ytokdhggajpklcaa
