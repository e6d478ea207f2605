/- The program's remainder by 64 is the remainder that is at least 0, of any integer. Condition: none. -/
import Derived.Test.YtjmfffgddmnkmabTab
import Derived.WalkKit
namespace Go.Proofs.Ytjmfffgddmnkmab
open Go

theorem tmod64 (a : Int) : (0 ≤ a → a.tmod 64 = a % 64) ∧ (a < 0 → a.tmod 64 = -((-a) % 64)) := by
  constructor
  · intro h; exact Int.tmod_eq_emod_of_nonneg h
  · intro h
    have h1 : (-a).tmod 64 = (-a) % 64 := Int.tmod_eq_emod_of_nonneg (by omega)
    rw [Int.neg_tmod] at h1
    omega

theorem tmod64_bd (a : Int) : -64 < a.tmod 64 ∧ a.tmod 64 < 64 := by
  have h := tmod64 a
  rcases Int.lt_or_le a 0 with h0 | h0
  · have := h.2 h0; omega
  · have := h.1 h0; omega

theorem emod64 (a : Int) : a % 64 = if a.tmod 64 < 0 then a.tmod 64 + 64 else a.tmod 64 := by
  have h := tmod64 a
  rcases Int.lt_or_le a 0 with h0 | h0
  · have := h.2 h0; split <;> omega
  · have := h.1 h0; split <;> omega

theorem wrap_small (a : Int) (h : -1000 ≤ a) (h' : a ≤ 1000) : IntKind.i64.wrap a = a := IntWalk.i64_in a (by omega)

theorem spec_rest (a : Int) : (IntKind.i64.wrap (a.tmod 64 + 64)).tmod 64 = a % 64 := by
  have hb := tmod64_bd a
  have he := emod64 a
  rw [wrap_small _ (by omega) (by omega), Int.tmod_eq_emod_of_nonneg (by omega)]
  split at he <;> omega

theorem rem64_nonneg (a : Int) (h : ¬ a.tmod 64 < 0) (w : World) : Calls Try.prog 127 #[.int .i64 a, .int .i64 64] w fun e w' => e = .returned (.int .i64 (a.tmod 64)) ∧ w = w' := by
  go_enter Try.func127, Try.ntmps127
  go_wp2
  go_ret
  exact ⟨rfl, rfl⟩

theorem rem64_neg (a : Int) (h : a.tmod 64 < 0) (h1 : -64 < a.tmod 64) (w : World) : Calls Try.prog 127 #[.int .i64 a, .int .i64 64] w fun e w' => e = .returned (.int .i64 (a.tmod 64 + 64)) ∧ w = w' := by
  go_enter Try.func127, Try.ntmps127
  go_wp2
  go_ret
  exact ⟨rfl, rfl⟩

theorem rem64 (a : Int) (w : World) : Calls Try.prog 127 #[.int .i64 a, .int .i64 64] w fun e w' => e = .returned (.int .i64 (a % 64)) ∧ w = w' := by
  rw [emod64 a]
  split
  · rename_i h; exact rem64_neg a h (tmod64_bd a).1 w
  · rename_i h; exact rem64_nonneg a h w

/-- what is known of the program's remainder -/
def memoRem (g : FuncId) (args : Array Value) : Option Value :=
  if g = 127 then
    match args.toList with
    | [.int .i64 a, .int .i64 b] => if b = 64 then some (.int .i64 (a % 64)) else none
    | _ => none
  else none

theorem known_rem : Known Try.prog memoRem := by
  intro g args v h w
  unfold memoRem at h
  split at h
  · rename_i hg
    subst hg
    split at h
    · rename_i a b hl
      obtain ⟨l⟩ := args
      simp only at hl
      subst hl
      split at h
      · rename_i hb
        subst hb
        cases h
        exact rem64 a w
      · cases h
    · cases h
  · cases h

/-- the frame of the program's phase once the remainder is found -/
def at3 (fr : Frame) : Bool := fr.fn == 95 && match fr.tmps.getD 3 undef with | .int .. => true | _ => false
noncomputable def frImpl (w : World) (k e : Int) : Frame :=
  { topOf (runM Try.prog (fun g => g == 127) memoRem at3 99 (Frame.enter Try.prog 95 #[.int .i64 0] .normal) [] w) with
    tmps := slots 18 [(0, .int .i64 k), (2, .complex .f32 0 0), (3, .int .i64 e), (5, .int .i64 k), (6, .int .i64 e)] }

theorem impl_head (w : World) (k : Int) (cs : List Frame) :
    runM Try.prog (fun g => g == 127) memoRem at3 99 (Frame.enter Try.prog 95 #[.int .i64 k] .normal) cs w = some (frImpl w k (k % 64), cs, w) := by kernel_rfl

end Go.Proofs.Ytjmfffgddmnkmab
