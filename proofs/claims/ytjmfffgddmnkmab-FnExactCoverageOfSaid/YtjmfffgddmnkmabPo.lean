/- Lists of places that lie in memory: what a call knows of one that came in, and of one that it made itself. Condition: none. -/
import Derived.Test.YtjmfffgddmnkmabHk
import Derived.Maps.AppendAt
namespace Go.Proofs.Ytjmfffgddmnkmab
open Go Go.RowKit

/-- the slice v of n places lies in a block from B on and holds the numbers F, two a place -/
def OwnP (B : Nat) (v : Value) (n : Nat) (F : List Int) (w : World) : Prop := w.ownsRow B 109 2 v n (F.map (Value.int .i64))
/-- what is known of a list of places that came in -/
def CameP (a : Option Addr) (n : Nat) (F : List Int) (w : World) : Prop := Came a (n * 2) F w

theorem OwnP.len {B n : Nat} {v : Value} {F : List Int} {w : World} (h : OwnP B v n F w) : F.length = n * 2 := by
  have := h.1
  rwa [List.length_map] at this
theorem OwnP.zero (B : Nat) (w : World) : OwnP B (.slice none 0 0) 0 [] w := World.ownsRow_nil _ _ _ _
theorem OwnP.mono {B B' n : Nat} {v : Value} {F : List Int} {w : World} (h : OwnP B v n F w) (hb : B' ≤ B) : OwnP B' v n F w := World.ownsRow.mono h hb
theorem OwnP.alloc {B n : Nat} {v : Value} {F : List Int} {w : World} (h : OwnP B v n F w) (o : Obj) : OwnP B v n F (w.alloc o) := World.ownsRow.alloc h o

theorem OwnP.below {B C n : Nat} {v : Value} {F : List Int} {w u : World} (h : OwnP B v n F w) (k : Below C w u) (hC : w.heap.size ≤ C) : OwnP B v n F u := by
  refine ⟨h.1, ?_⟩
  rcases h.2 with h2 | ⟨g, cap, cur, hv, hb, hg, r⟩
  · exact .inl h2
  · have hlt : g < w.heap.size := (Array.getElem?_eq_some_iff.1 hg).1
    exact .inr ⟨g, cap, cur, hv, hb, by rw [k.block g (by omega)]; exact hg, r⟩

theorem OwnP.kind {B n : Nat} {v : Value} {F : List Int} {w : World} (h : OwnP B v n F w) :
    (n = 0 ∧ F = [] ∧ v = .slice none 0 0) ∨ ∃ g cap, v = .slice (some ⟨g, 0, none⟩) n cap ∧ B ≤ g ∧ g < w.heap.size ∧ n ≤ cap := by
  have hl := h.len
  rcases h.2 with ⟨hv, h2⟩ | ⟨g, cap, cur, hv, hb, hg, r, _⟩
  · exact .inl ⟨h2, List.length_eq_zero_iff.1 (by omega), hv⟩
  · exact .inr ⟨g, cap, hv, hb, (Array.getElem?_eq_some_iff.1 hg).1, r⟩

theorem OwnP.cell {B n g cap : Nat} {F : List Int} {w : World} (h : OwnP B (.slice (some ⟨g, 0, none⟩) n cap) n F w) (i : Nat) (hi : i < n * 2) :
    w.cell? ⟨g, i, none⟩ = some (.int .i64 (F.getD i 0)) := by
  rw [World.ownsRow.cellAt h i hi]
  exact map_getD F i (by rw [h.len]; exact hi)
theorem OwnP.free {B n g cap : Nat} {F : List Int} {w : World} (h : OwnP B (.slice (some ⟨g, 0, none⟩) n cap) n F w) (i : Nat) :
    w.frozen? ⟨g, i, none⟩ = false := World.ownsRow.frozenAt h _
theorem OwnP.stored {B n g cap : Nat} {F : List Int} {w : World} (h : OwnP B (.slice (some ⟨g, 0, none⟩) n cap) n F w) (i : Nat) (x : Int) :
    OwnP B (.slice (some ⟨g, 0, none⟩) n cap) n (F.set i x) (w.setCell ⟨g, i, none⟩ (.int .i64 x)) := by
  have h1 := (World.ownsRow.stored h i (.int .i64 x)).1
  unfold OwnP
  rw [List.map_set]
  exact h1
theorem OwnP.came {B n : Nat} {v : Value} {F : List Int} {w : World} (h : OwnP B v n F w) : ∃ a c, v = .slice a n c ∧ CameP a n F w := by
  have hl := h.len
  rcases h.kind with ⟨rfl, rfl, rfl⟩ | ⟨g, cap, rfl, hb, hg, _⟩
  · exact ⟨none, 0, rfl, rfl, fun h0 => absurd h0 (by simp)⟩
  · exact ⟨some ⟨g, 0, none⟩, cap, rfl, hl, fun _ => ⟨g, 0, rfl, hg, fun i hi => by rw [Nat.zero_add]; exact h.cell i hi⟩⟩
theorem OwnP.rng {B n : Nat} {v : Value} {F : List Int} {w : World} (h : OwnP B v n F w) : Rng v B w.heap.size := World.ownsRow.lt h
theorem OwnP.grown {B n lo hi : Nat} {v : Value} {F : List Int} {w w' : World} {row : Option Nat} (h : OwnP B v n F w) (g : w.grownBy w' row) (r : Rng v lo hi) (a : ∀ k, row = some k → k < lo ∨ hi ≤ k) : OwnP B v n F w' := by
  refine World.ownsRow.kept h g ?_
  cases hb : v.ownBlock
  · exact .inl rfl
  · right
    intro e
    have := r _ hb
    have := a _ e.symm
    omega

theorem CameP.below {C n : Nat} {a : Option Addr} {F : List Int} {w u : World} (h : CameP a n F w) (k : Below C w u) (hC : w.heap.size ≤ C) : CameP a n F u := Came.below h k hC
theorem CameP.at {n : Nat} {a : Option Addr} {F : List Int} {w : World} (h : CameP a n F w) (i : Nat) (hi : i < n) : ∃ b off, a = some ⟨b, off, none⟩ ∧ b < w.heap.size ∧
    w.cell? ⟨b, off + i * 2, none⟩ = some (.int .i64 (F.getD (i * 2) 0)) ∧ w.cell? ⟨b, off + i * 2 + 1, none⟩ = some (.int .i64 (F.getD (i * 2 + 1) 0)) := by
  obtain ⟨b, off, ha, hb, hc⟩ := h.2 (by omega)
  exact ⟨b, off, ha, hb, hc (i * 2) (by omega), hc (i * 2 + 1) (by omega)⟩

theorem infoP : (Try.prog.info? 109).map (fun i => (i.zero, i.size, i.bytes)) = some (some (.agg #[.int .i64 0, .int .i64 0]), 2, 16) := by kernel_rfl

end Go.Proofs.Ytjmfffgddmnkmab
