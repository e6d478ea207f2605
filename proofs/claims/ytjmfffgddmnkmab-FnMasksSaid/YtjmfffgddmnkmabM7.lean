/- The program's remainder by 64 is the remainder that is at least 0, of any integer. Condition: none. The program's phase behind the remainder: the entries 0 to 15 of the table. Condition: none. -/
import Derived.Test.YtjmfffgddmnkmabM6
import Derived.WalkKit
namespace Go.Proofs.Ytjmfffgddmnkmab
open Go

theorem tmod64 (a : Int) : (0 ≤ a → a.tmod 64 = a % 64) ∧ (a < 0 → a.tmod 64 = -((-a) % 64)) := by
  constructor
  · intro h; exact Int.tmod_eq_emod_of_nonneg h
  · intro h
    have h1 : (-a).tmod 64 = (-a) % 64 := Int.tmod_eq_emod_of_nonneg (by omega)
    rw [Int.neg_tmod] at h1
    omega

theorem tmod64_bd (a : Int) : -64 < a.tmod 64 ∧ a.tmod 64 < 64 := by
  have h := tmod64 a
  rcases Int.lt_or_le a 0 with h0 | h0
  · have := h.2 h0; omega
  · have := h.1 h0; omega

theorem emod64 (a : Int) : a % 64 = if a.tmod 64 < 0 then a.tmod 64 + 64 else a.tmod 64 := by
  have h := tmod64 a
  rcases Int.lt_or_le a 0 with h0 | h0
  · have := h.2 h0; split <;> omega
  · have := h.1 h0; split <;> omega

theorem wrap_small (a : Int) (h : -1000 ≤ a) (h' : a ≤ 1000) : IntKind.i64.wrap a = a := IntWalk.i64_in a (by omega)

theorem spec_rest (a : Int) : (IntKind.i64.wrap (a.tmod 64 + 64)).tmod 64 = a % 64 := by
  have hb := tmod64_bd a
  have he := emod64 a
  rw [wrap_small _ (by omega) (by omega), Int.tmod_eq_emod_of_nonneg (by omega)]
  split at he <;> omega

theorem rem64_nonneg (a : Int) (h : ¬ a.tmod 64 < 0) (w : World) : Calls Try.prog 127 #[.int .i64 a, .int .i64 64] w fun e w' => e = .returned (.int .i64 (a.tmod 64)) ∧ w = w' := by
  go_enter Try.func127, Try.ntmps127
  go_wp2
  go_ret
  exact ⟨rfl, rfl⟩

theorem rem64_neg (a : Int) (h : a.tmod 64 < 0) (h1 : -64 < a.tmod 64) (w : World) : Calls Try.prog 127 #[.int .i64 a, .int .i64 64] w fun e w' => e = .returned (.int .i64 (a.tmod 64 + 64)) ∧ w = w' := by
  go_enter Try.func127, Try.ntmps127
  go_wp2
  go_ret
  exact ⟨rfl, rfl⟩

theorem rem64 (a : Int) (w : World) : Calls Try.prog 127 #[.int .i64 a, .int .i64 64] w fun e w' => e = .returned (.int .i64 (a % 64)) ∧ w = w' := by
  rw [emod64 a]
  split
  · rename_i h; exact rem64_neg a h (tmod64_bd a).1 w
  · rename_i h; exact rem64_nonneg a h w

/-- what is known of the program's remainder -/
def memoRem (g : FuncId) (args : Array Value) : Option Value :=
  if g = 127 then
    match args.toList with
    | [.int .i64 a, .int .i64 b] => if b = 64 then some (.int .i64 (a % 64)) else none
    | _ => none
  else none

theorem known_rem : Known Try.prog memoRem := by
  intro g args v h w
  unfold memoRem at h
  split at h
  · rename_i hg
    subst hg
    split at h
    · rename_i a b hl
      obtain ⟨l⟩ := args
      simp only at hl
      subst hl
      split at h
      · rename_i hb
        subst hb
        cases h
        exact rem64 a w
      · cases h
    · cases h
  · cases h

/-- the frame of the program's phase once the remainder is found -/
def at3 (fr : Frame) : Bool := fr.fn == 95 && match fr.tmps.getD 3 undef with | .int .. => true | _ => false
noncomputable def frImpl (w : World) (k e : Int) : Frame :=
  { topOf (runM Try.prog (fun g => g == 127) memoRem at3 99 (Frame.enter Try.prog 95 #[.int .i64 0] .normal) [] w) with
    tmps := slots 18 [(0, .int .i64 k), (2, .complex .f32 0 0), (3, .int .i64 e), (5, .int .i64 k), (6, .int .i64 e)] }

theorem impl_head (w : World) (k : Int) (cs : List Frame) :
    runM Try.prog (fun g => g == 127) memoRem at3 99 (Frame.enter Try.prog 95 #[.int .i64 k] .normal) cs w = some (frImpl w k (k % 64), cs, w) := by kernel_rfl

end Go.Proofs.Ytjmfffgddmnkmab

namespace Go.Proofs.Ytjmfffgddmnkmab
open Go
theorem impl_0 (w : World) (k : Int) (cs : List Frame) :
    outM Try.prog (fun _ => false) (fun _ _ => none) 9999 95 (frImpl w k 0) cs w = some (.complex .f32 (tre 0) (tim 0), cs, w, w) := by kernel_rfl
theorem impl_1 (w : World) (k : Int) (cs : List Frame) :
    outM Try.prog (fun _ => false) (fun _ _ => none) 9999 95 (frImpl w k 1) cs w = some (.complex .f32 (tre 1) (tim 1), cs, w, w) := by kernel_rfl
theorem impl_2 (w : World) (k : Int) (cs : List Frame) :
    outM Try.prog (fun _ => false) (fun _ _ => none) 9999 95 (frImpl w k 2) cs w = some (.complex .f32 (tre 2) (tim 2), cs, w, w) := by kernel_rfl
theorem impl_3 (w : World) (k : Int) (cs : List Frame) :
    outM Try.prog (fun _ => false) (fun _ _ => none) 9999 95 (frImpl w k 3) cs w = some (.complex .f32 (tre 3) (tim 3), cs, w, w) := by kernel_rfl
theorem impl_4 (w : World) (k : Int) (cs : List Frame) :
    outM Try.prog (fun _ => false) (fun _ _ => none) 9999 95 (frImpl w k 4) cs w = some (.complex .f32 (tre 4) (tim 4), cs, w, w) := by kernel_rfl
theorem impl_5 (w : World) (k : Int) (cs : List Frame) :
    outM Try.prog (fun _ => false) (fun _ _ => none) 9999 95 (frImpl w k 5) cs w = some (.complex .f32 (tre 5) (tim 5), cs, w, w) := by kernel_rfl
theorem impl_6 (w : World) (k : Int) (cs : List Frame) :
    outM Try.prog (fun _ => false) (fun _ _ => none) 9999 95 (frImpl w k 6) cs w = some (.complex .f32 (tre 6) (tim 6), cs, w, w) := by kernel_rfl
theorem impl_7 (w : World) (k : Int) (cs : List Frame) :
    outM Try.prog (fun _ => false) (fun _ _ => none) 9999 95 (frImpl w k 7) cs w = some (.complex .f32 (tre 7) (tim 7), cs, w, w) := by kernel_rfl
theorem impl_8 (w : World) (k : Int) (cs : List Frame) :
    outM Try.prog (fun _ => false) (fun _ _ => none) 9999 95 (frImpl w k 8) cs w = some (.complex .f32 (tre 8) (tim 8), cs, w, w) := by kernel_rfl
theorem impl_9 (w : World) (k : Int) (cs : List Frame) :
    outM Try.prog (fun _ => false) (fun _ _ => none) 9999 95 (frImpl w k 9) cs w = some (.complex .f32 (tre 9) (tim 9), cs, w, w) := by kernel_rfl
theorem impl_10 (w : World) (k : Int) (cs : List Frame) :
    outM Try.prog (fun _ => false) (fun _ _ => none) 9999 95 (frImpl w k 10) cs w = some (.complex .f32 (tre 10) (tim 10), cs, w, w) := by kernel_rfl
theorem impl_11 (w : World) (k : Int) (cs : List Frame) :
    outM Try.prog (fun _ => false) (fun _ _ => none) 9999 95 (frImpl w k 11) cs w = some (.complex .f32 (tre 11) (tim 11), cs, w, w) := by kernel_rfl
theorem impl_12 (w : World) (k : Int) (cs : List Frame) :
    outM Try.prog (fun _ => false) (fun _ _ => none) 9999 95 (frImpl w k 12) cs w = some (.complex .f32 (tre 12) (tim 12), cs, w, w) := by kernel_rfl
theorem impl_13 (w : World) (k : Int) (cs : List Frame) :
    outM Try.prog (fun _ => false) (fun _ _ => none) 9999 95 (frImpl w k 13) cs w = some (.complex .f32 (tre 13) (tim 13), cs, w, w) := by kernel_rfl
theorem impl_14 (w : World) (k : Int) (cs : List Frame) :
    outM Try.prog (fun _ => false) (fun _ _ => none) 9999 95 (frImpl w k 14) cs w = some (.complex .f32 (tre 14) (tim 14), cs, w, w) := by kernel_rfl
theorem impl_15 (w : World) (k : Int) (cs : List Frame) :
    outM Try.prog (fun _ => false) (fun _ _ => none) 9999 95 (frImpl w k 15) cs w = some (.complex .f32 (tre 15) (tim 15), cs, w, w) := by kernel_rfl
end Go.Proofs.Ytjmfffgddmnkmab
