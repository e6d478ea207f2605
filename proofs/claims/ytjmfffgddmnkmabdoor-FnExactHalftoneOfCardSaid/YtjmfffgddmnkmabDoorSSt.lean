/- The model's steps of a picture. Condition: 64 floats. -/
import Derived.Test.YtjmfffgddmnkmabDoorStp
import Derived.Laws.AppendOwn
import Derived.OwnWalk
namespace Go.Proofs.YtjmfffgddmnkmabDoor
open Go Go.RowKit

theorem okTo_at (n : Nat) (zs : Array Value) (m k : Nat) (h : okTo n zs m = true) (hk : k < m) : okCell n k (bitsAt zs k) = true := by
  induction m with
  | zero => omega
  | succ m ih =>
    rw [okTo, Bool.and_eq_true] at h
    by_cases e : k = m
    · subst e; exact h.2
    · exact ih h.1 (by omega)
theorem shown_level (s : Int) (zs : Array Value) (h : shown s zs = true) (k : Nat) (hk : k < 64) : fin (bitsAt zs k) = true ∧ ltz (bitsAt zs k) = false := by
  unfold shown at h
  rw [Bool.and_eq_true] at h
  have := okTo_at _ zs 64 k h.2 hk
  unfold okCell at this
  simp only [Bool.and_eq_true, Bool.not_eq_true'] at this
  exact this.1
/-- the code of a picture, a number and a number of steps -/
def codeSt (s : Int) (zs : Array Value) (q : Nat) (m : Int) : Int := if shown s zs && fin q then (if leZ q || !inside m 2 256 then 2 else 0) else 1
def stepAt (zs : Array Value) (q : Nat) (m : Int) (i : Nat) : Int := lvlStep (bitsAt zs i) q m
theorem codeSt_one (s : Int) (zs : Array Value) (q : Nat) (m : Int) (h : (shown s zs && fin q) = false) : codeSt s zs q m = 1 := by unfold codeSt; rw [h]; rfl
theorem codeSt_two (s : Int) (zs : Array Value) (q : Nat) (m : Int) (h : (shown s zs && fin q) = true) (h2 : (leZ q || !inside m 2 256) = true) : codeSt s zs q m = 2 := by unfold codeSt; rw [h, h2]; rfl
theorem codeSt_ok (s : Int) (zs : Array Value) (q : Nat) (m : Int) (h : (shown s zs && fin q) = true) (h2 : (leZ q || !inside m 2 256) = false) : codeSt s zs q m = 0 := by unfold codeSt; rw [h, h2]; rfl
theorem inside_two (m : Int) (h : inside m 2 256 = true) : 2 ≤ m ∧ m ≤ 256 := by simpa [inside] using h

/-- a list of numbers lies at a place -/
def RowJ (g n : Nat) (f : Nat → Int) (v : World) : Prop := g < v.heap.size ∧ ∀ i, i < n → v.cell? ⟨g, i, none⟩ = some (.int .i64 (f i))
theorem RowJ.below {g n : Nat} {f : Nat → Int} {v u : World} (h : RowJ g n f v) (k : Below v.heap.size v u) : RowJ g n f u :=
  ⟨Nat.lt_of_lt_of_le h.1 k.size, fun i hi => by rw [World.cell?_of_block (w := v) (k.block g h.1)]; exact h.2 i hi⟩

theorem own_ints {w : World} {base n : Nat} {v : Value} {f : Nat → Int} (h : w.ownsRow base 2 1 v n ((List.range n).map fun i => .int .i64 (f i))) (hn : 0 < n) :
    ∃ g cap, v = .slice (some ⟨g, 0, none⟩) n cap ∧ base ≤ g ∧ RowJ g n f w := by
  rcases h.2 with ⟨rfl, h0⟩ | ⟨g, cap, cur, rfl, hb, hg, _⟩
  · omega
  · refine ⟨g, cap, rfl, hb, (Array.getElem?_eq_some_iff.1 hg).1, fun i hi => ?_⟩
    have := h.cells (g := g) rfl i (.int .i64 (f i)) (by rw [List.getElem?_map, List.getElem?_range hi]; rfl)
    rwa [show ((⟨g, 0, none⟩ : Addr).add i) = ⟨g, i, none⟩ by unfold Addr.add; split <;> simp_all] at this
set_option maxRecDepth 100000 in
theorem infoInt : (Tryd.prog.info? 2).map (fun i => (i.zero, i.size, i.bytes)) = some (some (.int .i64 0), 1, 8) := by kernel_rfl

end Go.Proofs.YtjmfffgddmnkmabDoor
