/- What is known of the phases, and spec.PhaseOf. Condition: none. -/
import Derived.Test.YtjmfffgddmnkmaaPhase
namespace Go.Proofs.Ytjmfffgddmnkmaa
open Go

def memoPhase (g : FuncId) (args : Array Value) : Option Value :=
  if g = 69 ∨ g = 17 then
    match args.toList with
    | [.int .i64 k] => some (.complex .f32 (tre (k % 64).toNat) (tim (k % 64).toNat))
    | _ => none
  else none

theorem known_phase : Known Try.prog memoPhase := by
  intro g args v h w
  unfold memoPhase at h
  split at h
  · rename_i hg
    split at h
    · rename_i k hl
      obtain ⟨l⟩ := args
      simp only at hl
      subst hl
      cases h
      rcases hg with rfl | rfl
      · exact spec_phase k w
      · exact impl_phase k w
    · cases h
  · cases h

theorem spec_phaseOf (k : Int) (w : World) : Calls Try.prog 18 #[.int .i64 k] w fun e w' => e = .returned (.complex .f32 (tre (k % 64).toNat) (tim (k % 64).toNat)) ∧ w = w' :=
  calls_of (fun g => g == 69) known_phase 999 (fun cs => by kernel_rfl)

end Go.Proofs.Ytjmfffgddmnkmaa
