/- What is known of the phases, and spec.PhaseOf. Condition: none. -/
import Derived.Test.YtjmfffgddmnkmabPhase
namespace Go.Proofs.Ytjmfffgddmnkmab
open Go

def memoPhase (g : FuncId) (args : Array Value) : Option Value :=
  if g = 125 ∨ g = 95 then
    match args.toList with
    | [.int .i64 k] => some (.complex .f32 (tre (k % 64).toNat) (tim (k % 64).toNat))
    | _ => none
  else none

theorem known_phase : Known Try.prog memoPhase := by
  intro g args v h w
  unfold memoPhase at h
  split at h
  · rename_i hg
    split at h
    · rename_i k hl
      obtain ⟨l⟩ := args
      simp only at hl
      subst hl
      cases h
      rcases hg with rfl | rfl
      · exact spec_phase k w
      · exact impl_phase k w
    · cases h
  · cases h

end Go.Proofs.Ytjmfffgddmnkmab
