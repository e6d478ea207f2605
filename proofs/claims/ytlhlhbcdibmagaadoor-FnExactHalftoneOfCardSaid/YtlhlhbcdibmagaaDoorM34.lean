/- The top and the bottom of a picture, in the program and in the model. Condition: 64 floats that are a picture's. What the program asks of numbers in chapter 3: whether they lie within two, whether they are a centre, distances, the rules' array, the cell of an opening. Condition: none. -/
import Derived.Test.YtlhlhbcdibmagaaDoorQg
import Derived.Test.YtlhlhbcdibmagaaDoorM33
import Derived.Deep.QuietTactic
import Derived.BigQuiet
import Derived.Test.YtlhlhbcdibmagaaDoorM32
namespace Go.Proofs.YtlhlhbcdibmagaaDoor
open Go Go.RowKit

theorem bitsAt_lt (zs : Array Value) (hz : Floats zs) (k : Nat) (hk : k < 64) : bitsAt zs k < 4294967296 ∧ zs[k]? = some (.float .f32 (bitsAt zs k)) := by
  obtain ⟨x, hx, h⟩ := hz.2 k hk
  rw [bitsAt_of zs k x h]
  exact ⟨hx, h⟩
/-- the greatest of the first k + 1 levels, as the builtin finds it; the least -/
def mxP (zs : Array Value) : Nat → Nat
  | 0 => bitsAt zs 0
  | k + 1 => mx2 (mxP zs k) (bitsAt zs (k + 1))
def mnP (zs : Array Value) : Nat → Nat
  | 0 => bitsAt zs 0
  | k + 1 => mn2 (mnP zs k) (bitsAt zs (k + 1))
/-- the same as tests find them -/
def topS (zs : Array Value) : Nat → Nat
  | 0 => bitsAt zs 0
  | k + 1 => up2 (topS zs k) (bitsAt zs (k + 1))
def botS (zs : Array Value) : Nat → Nat
  | 0 => bitsAt zs 0
  | k + 1 => lo2 (botS zs k) (bitsAt zs (k + 1))
/-- a number among the levels -/
def Lev (zs : Array Value) (x : Nat) : Prop := ∃ k, k < 64 ∧ x = bitsAt zs k
theorem lev_fin (s : Int) (zs : Array Value) (h : shown s zs = true) (x : Nat) (hx : Lev zs x) : fin x = true ∧ ltz x = false := by
  obtain ⟨k, hk, rfl⟩ := hx
  exact shown_level s zs h k hk
theorem lev_lt (zs : Array Value) (hz : Floats zs) (x : Nat) (hx : Lev zs x) : x < 4294967296 := by
  obtain ⟨k, hk, rfl⟩ := hx
  exact (bitsAt_lt zs hz k hk).1
theorem ends_both (s : Int) (zs : Array Value) (hz : Floats zs) (h : shown s zs = true) : ∀ k, k < 64 → (zeq (mxP zs k) (topS zs k) ∧ Lev zs (mxP zs k) ∧ Lev zs (topS zs k)) ∧ (zeq (mnP zs k) (botS zs k) ∧ Lev zs (mnP zs k) ∧ Lev zs (botS zs k)) := by
  intro k
  induction k with
  | zero => exact fun hk => ⟨⟨.inl rfl, ⟨0, hk, rfl⟩, ⟨0, hk, rfl⟩⟩, ⟨.inl rfl, ⟨0, hk, rfl⟩, ⟨0, hk, rfl⟩⟩⟩
  | succ k ih =>
    intro hk
    obtain ⟨⟨a1, a2, a3⟩, ⟨b1, b2, b3⟩⟩ := ih (by omega)
    have hl : Lev zs (bitsAt zs (k + 1)) := ⟨k + 1, hk, rfl⟩
    obtain ⟨c1, c2, c3⟩ := mx_up (mxP zs k) (topS zs k) (bitsAt zs (k + 1)) (lev_fin s zs h _ a2).1 (lev_fin s zs h _ hl).1 (lev_lt zs hz _ a2) (lev_lt zs hz _ hl) a1
    obtain ⟨d1, d2, d3⟩ := mn_lo (mnP zs k) (botS zs k) (bitsAt zs (k + 1)) (lev_fin s zs h _ b2).1 (lev_fin s zs h _ hl).1 (lev_lt zs hz _ b2) (lev_lt zs hz _ hl) b1
    refine ⟨⟨c1, ?_, ?_⟩, ⟨d1, ?_, ?_⟩⟩
    · show Lev zs (mx2 _ _); rcases c2 with e | e <;> rw [e] <;> assumption
    · show Lev zs (up2 _ _); rcases c3 with e | e <;> rw [e] <;> assumption
    · show Lev zs (mn2 _ _); rcases d2 with e | e <;> rw [e] <;> assumption
    · show Lev zs (lo2 _ _); rcases d3 with e | e <;> rw [e] <;> assumption

theorem run_maxF (x y : Nat) (hx : fin x = true) (hy : fin y = true) (ts : Array TypeId) (t : TypeId) (w : World) : (Builtin.max_ ts t #[.float .f32 x, .float .f32 y]).run Tryd.prog w = .ok (.float .f32 (mx2 x y)) w := by
  obtain ⟨o, ho⟩ := ord_some x y hx hy
  have ho' : FloatKind.f32.format.order x y = some o := ho
  have hd : FloatKind.f32.decode x = Ieee.single.read x := rfl
  unfold mx2
  rw [ho]
  cases o <;> simp [Builtin.max_, Builtin.max2, ho', hd]
theorem run_minF (x y : Nat) (hx : fin x = true) (hy : fin y = true) (ts : Array TypeId) (t : TypeId) (w : World) : (Builtin.min_ ts t #[.float .f32 x, .float .f32 y]).run Tryd.prog w = .ok (.float .f32 (mn2 x y)) w := by
  obtain ⟨o, ho⟩ := ord_some x y hx hy
  have ho' : FloatKind.f32.format.order x y = some o := ho
  have hd : FloatKind.f32.decode x = Ieee.single.read x := rfl
  unfold mn2
  rw [ho]
  cases o <;> simp [Builtin.min_, Builtin.min2, ho', hd]

/-- a picture's levels lie in a block behind its side -/
def LevRow (b n : Nat) (zs : Array Value) (w : World) : Prop := ∀ k, k < n → w.cell? ⟨b, 1 + k, none⟩ = some (.float .f32 (bitsAt zs k))

end Go.Proofs.YtlhlhbcdibmagaaDoor

namespace Go.Proofs.YtlhlhbcdibmagaaDoor
open Go Go.RowKit

/-- the cell of an opening -/
theorem cell_any (b : Bool) (w : World) : Calls Tryd.prog 27 #[.bool b] w fun e w' => e = .returned (.complex .f32 (mark b).1 (mark b).2) ∧ w = w' := by
  cases b
  · go_enter Tryd.func27, Tryd.ntmps27
    go_wp2
    go_ret
    exact ⟨rfl, rfl⟩
  · go_enter Tryd.func27, Tryd.ntmps27
    go_wp2
    go_ret
    exact ⟨rfl, rfl⟩

theorem results_row_one {P : Program} {fn : Func} {p : Tmp} {ty : TypeId} (h : fn.results = #[.cell p ty]) (tmps : Array Value) (w : World) (g : Nat) (t : TypeId) (cs : Array Value) (fr : Nat × Nat) (d : TypeDesc)
    (hp : tmps.getD p undef = .pointer (some ⟨g, 0, none⟩)) (hg : w.heap[g]? = some (.cells cs t fr))
    (hu : P.underlying ty = some d) (hd : (match d with | .struct _ | .array _ _ => true | _ => false) = true) (hi : (P.info? ty).map (·.size) = some cs.size) :
    (results fn tmps).run P w = .ok (.agg cs) w := by
  have hp' : tmps[p]?.getD undef = .pointer (some ⟨g, 0, none⟩) := by simpa using hp
  simp only [results, h]
  simp [asAddr, hp', run_loadVar_row w g t ty cs fr d hg hu hd hi]

/-- a store of a function -/
@[go_sem] theorem run_store_func (P : Program) (w : World) (a : Addr) (m : Mode) (f : Fn) (x y : Array Value) : (store a (.func f x y) m).run P w = stored P w a (.func f x y) m := run_store P w a _ m rfl
end Go.Proofs.YtlhlhbcdibmagaaDoor
